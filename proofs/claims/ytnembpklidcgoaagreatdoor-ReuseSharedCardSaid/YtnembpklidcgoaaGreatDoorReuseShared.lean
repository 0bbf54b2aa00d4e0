/-
  The law ReuseShared (depotlaw18) returns true for every request, reply and time, and leaves what it was given as it was. No condition but that the tables of the program and of the library hold what their initialisers lay.
-/
import Derived.Test.YtnembpklidcgoaaGreatDoorRows
import Derived.WalkKit
import Derived.ProofKit
import Derived.OpenShut
import Derived.ShutString
import Derived.ChangeOld
import Derived.Below
import Derived.Test.YtnembpklidcgoaaGreatDoorMrgB
import Derived.Test.YtnembpklidcgoaaGreatDoorMrgD
import Derived.Test.YtnembpklidcgoaaGreatDoorMrgE
import Derived.Test.YtnembpklidcgoaaGreatDoorMrgF
import Derived.Test.YtnembpklidcgoaaGreatDoorMrgG
import Derived.Test.YtnembpklidcgoaaGreatDoorMrgH
import Derived.Test.YtnembpklidcgoaaGreatDoorMrgI
import Derived.Test.YtnembpklidcgoaaGreatDoorMrgS
import Derived.Test.YtnembpklidcgoaaGreatDoorMrgX
import Derived.Test.YtnembpklidcgoaaGreatDoorMrgAA
import Derived.Test.YtnembpklidcgoaaGreatDoorMrgAC
import Derived.Test.YtnembpklidcgoaaGreatDoorMrgAD
import Derived.Test.YtnembpklidcgoaaGreatDoorMrgAE
import Derived.Test.YtnembpklidcgoaaGreatDoorMrgAG
import Derived.Test.YtnembpklidcgoaaGreatDoorMrgAJ
import Derived.Test.YtnembpklidcgoaaGreatDoorMrgAK
import Derived.Test.YtnembpklidcgoaaGreatDoorMrgAL
import Derived.Test.YtnembpklidcgoaaGreatDoorMrgAN
import Derived.Test.YtnembpklidcgoaaGreatDoorMrgAO
import Derived.Test.YtnembpklidcgoaaGreatDoorMrgAP
import Derived.Test.YtnembpklidcgoaaGreatDoorMrgAQ
import Derived.Test.YtnembpklidcgoaaGreatDoorMrgAT
import Derived.Test.YtnembpklidcgoaaGreatDoorMrgAU
import Derived.Test.YtnembpklidcgoaaGreatDoorMrgAW
import Derived.Test.YtnembpklidcgoaaGreatDoorMrgAY
import Derived.Test.YtnembpklidcgoaaGreatDoorMrgAZ
import Derived.Deep.RegionHeld3
import Derived.Deep.DeepCutAuto
import Derived.Test.YtnembpklidcgoaaGreatDoorCards
import Derived.Test.YtnembpklidcgoaaGreatDoorTie
import Derived.LaidMore
import Derived.Lib.LaidTab
import Derived.Stop.Joined
import Derived.Lay
set_option linter.unusedSimpArgs false
set_option linter.unusedVariables false
namespace Go.Proofs.YtnembpklidcgoaaGreatDoor.reuseShared
open Go.ChangeShapes Go.WideShapes Go.ChangeAt Go.RowKit
open Go.ChangeMaps (open_string shut_string)
set_option linter.unusedVariables false

theorem own : ownKnob Tryz.prog.godebug = none := by kernel_rfl
theorem laidOut : laidOutB Tryz.prog = true := by kernel_rfl

set_option maxHeartbeats 8000000 in
set_option maxRecDepth 100000 in
theorem walk (a0 : Rqst) (A0 : Option Addr) (c0 : Nat) (a1 : Rply) (A1 : Option Addr) (c1 : Nat) (a2 : Int) (w : World) (w0 : WfQ w a0 A0 c0) (w1 : WfP w a1 A1 c1) (w2 : (Lit.int .i64 a2).wf = true) (hL : laidMetH Tryz.prog Rows.reuseSharedRow.laid w) (hsh : w.ShapedOpen Tryz.prog) :
    Calls Tryz.prog 6 #[.agg (rqC a0 A0 c0), .agg (rpC a1 A1 c1), .int .i64 a2] w fun e w' => e = .returned (.bool true) ∧ Below w.heap.size w w' := by
  have B0 := both_of
  have HT := Lib.hid (reuTabs hL)
  clear hL hsh
  have CX := Lib.hid (fun W (hW : Below w.heap.size w W) => ex18_any W (HT.out.kept hW))
  have HFQ := Lib.hid (fun W (hW : Below w.heap.size w W) => w0.f.below hW)
  have HFP := Lib.hid (fun W (hW : Below w.heap.size w W) => w1.f.below hW)
  have kq := fun W (hW : Below w.heap.size w W) => r_fewQ5 a0 A0 c0 W (w0.f.below hW)
  have kp := fun W (hW : Below w.heap.size w W) => r_fewP5 a1 A1 c1 W (w1.f.below hW)
  have hqy := fun h => fwQ5_yes (r := a0) h
  have hpy := fun h => fwP5_yes (p := a1) h
  cases hq : fwQ5 a0 with
  | false =>
    rw [hq] at kq
    have KQ := Lib.hid kq
    clear kq kp hqy hpy hq HFQ HFP w0 w1
    obtain ⟨m, t, v, f, b⟩ := a0
    obtain ⟨pc, pr, pv, g, pb⟩ := a1
    unfold rqC rpC at *
    simp only at *
    have HB : Hid (Below w.heap.size w ((w.alloc (.cells #[.string m, .string t, .int .i64 v, .slice A0 f.length c0, .string b] 24)).alloc (.cells #[.int .i64 pc, .string pr, .int .i64 pv, .slice A1 g.length c1, .string pb] 26))) := ((Below.refl _ _).alloc (Nat.le_refl _) _).alloc (by simp) _
    have ZQ : Hid (((w.alloc (.cells #[.string m, .string t, .int .i64 v, .slice A0 f.length c0, .string b] 24)).alloc (.cells #[.int .i64 pc, .string pr, .int .i64 pv, .slice A1 g.length c1, .string pb] 26)).heap[w.heap.size]? = some (.cells #[.string m, .string t, .int .i64 v, .slice A0 f.length c0, .string b] 24 (0, 0))) := zero_more (heap_alloc_new w _)
    have zt := heap_alloc_new (w.alloc (.cells #[.string m, .string t, .int .i64 v, .slice A0 f.length c0, .string b] 24)) (.cells #[.int .i64 pc, .string pr, .int .i64 pv, .slice A1 g.length c1, .string pb] 26)
    rw [show (w.alloc (.cells #[.string m, .string t, .int .i64 v, .slice A0 f.length c0, .string b] 24)).heap.size = w.heap.size + 1 by simp] at zt
    have ZP := Lib.hid zt
    clear zt
    obtain ⟨q0, q1, q2, q3, q4⟩ := cel5r ZQ.out
    obtain ⟨p0, p1, p2, p3, p4⟩ := cel5r ZP.out
    go_enter Tryz.func6, Tryz.ntmps6
    go_wp2_with fail
    refine (KQ.out _ HB.out).mono ?_
    rintro e v1 ⟨rfl, hb⟩
    clear q0 q1 q2 q3 q4 p0 p1 p2 p3 p4
    replace ZQ := Lib.hid (zero_still hb ZQ.out)
    replace ZP := Lib.hid (zero_still hb ZP.out)
    replace HB := Lib.hid (below_then HB.out hb)
    clear hb
    obtain ⟨q0, q1, q2, q3, q4⟩ := cel5r ZQ.out
    obtain ⟨p0, p1, p2, p3, p4⟩ := cel5r ZP.out
    go_wp2_with fail
    refine (CX.out _ HB.out).mono ?_
    rintro e v9 ⟨rfl, hb⟩
    go_wp2_with fail
    go_ret
    exact ⟨rfl, below_then HB.out hb⟩
  | true =>
    cases hp : fwP5 a1 with
    | false =>
      rw [hq] at kq
      rw [hp] at kp
      have KQ := Lib.hid kq
      have KP := Lib.hid kp
      clear kq kp hqy hpy hq hp HFQ HFP w0 w1
      obtain ⟨m, t, v, f, b⟩ := a0
      obtain ⟨pc, pr, pv, g, pb⟩ := a1
      unfold rqC rpC at *
      simp only at *
      have HB : Hid (Below w.heap.size w ((w.alloc (.cells #[.string m, .string t, .int .i64 v, .slice A0 f.length c0, .string b] 24)).alloc (.cells #[.int .i64 pc, .string pr, .int .i64 pv, .slice A1 g.length c1, .string pb] 26))) := ((Below.refl _ _).alloc (Nat.le_refl _) _).alloc (by simp) _
      have ZQ : Hid (((w.alloc (.cells #[.string m, .string t, .int .i64 v, .slice A0 f.length c0, .string b] 24)).alloc (.cells #[.int .i64 pc, .string pr, .int .i64 pv, .slice A1 g.length c1, .string pb] 26)).heap[w.heap.size]? = some (.cells #[.string m, .string t, .int .i64 v, .slice A0 f.length c0, .string b] 24 (0, 0))) := zero_more (heap_alloc_new w _)
      have zt := heap_alloc_new (w.alloc (.cells #[.string m, .string t, .int .i64 v, .slice A0 f.length c0, .string b] 24)) (.cells #[.int .i64 pc, .string pr, .int .i64 pv, .slice A1 g.length c1, .string pb] 26)
      rw [show (w.alloc (.cells #[.string m, .string t, .int .i64 v, .slice A0 f.length c0, .string b] 24)).heap.size = w.heap.size + 1 by simp] at zt
      have ZP := Lib.hid zt
      clear zt
      obtain ⟨q0, q1, q2, q3, q4⟩ := cel5r ZQ.out
      obtain ⟨p0, p1, p2, p3, p4⟩ := cel5r ZP.out
      go_enter Tryz.func6, Tryz.ntmps6
      go_wp2_with fail
      refine (KQ.out _ HB.out).mono ?_
      rintro e v2 ⟨rfl, hb⟩
      clear q0 q1 q2 q3 q4 p0 p1 p2 p3 p4
      replace ZQ := Lib.hid (zero_still hb ZQ.out)
      replace ZP := Lib.hid (zero_still hb ZP.out)
      replace HB := Lib.hid (below_then HB.out hb)
      clear hb
      obtain ⟨q0, q1, q2, q3, q4⟩ := cel5r ZQ.out
      obtain ⟨p0, p1, p2, p3, p4⟩ := cel5r ZP.out
      go_wp2_with fail
      refine (KP.out _ HB.out).mono ?_
      rintro e v3 ⟨rfl, hb⟩
      clear q0 q1 q2 q3 q4 p0 p1 p2 p3 p4
      replace ZQ := Lib.hid (zero_still hb ZQ.out)
      replace ZP := Lib.hid (zero_still hb ZP.out)
      replace HB := Lib.hid (below_then HB.out hb)
      clear hb
      obtain ⟨q0, q1, q2, q3, q4⟩ := cel5r ZQ.out
      obtain ⟨p0, p1, p2, p3, p4⟩ := cel5r ZP.out
      go_wp2_with fail
      refine (CX.out _ HB.out).mono ?_
      rintro e v9 ⟨rfl, hb⟩
      go_wp2_with fail
      go_ret
      exact ⟨rfl, below_then HB.out hb⟩
    | true =>
      rw [hq] at kq
      rw [hp] at kp
      have KQ := Lib.hid kq
      have KP := Lib.hid kp
      have hQ := (hqy hq).1
      have hL := (hpy hp).1
      clear kq kp hqy hpy hq hp w0 w1
      obtain ⟨m, t, v, f, b⟩ := a0
      obtain ⟨pc, pr, pv, g, pb⟩ := a1
      unfold rqC rpC at *
      simp only at *
      obtain ⟨E, hE⟩ : ∃ E, E = (decide (f.length ≤ 60) && decide (g.length ≤ 60)) := ⟨_, rfl⟩
      have HE := Lib.hid hE
      clear hE
      have HB : Hid (Below w.heap.size w ((w.alloc (.cells #[.string m, .string t, .int .i64 v, .slice A0 f.length c0, .string b] 24)).alloc (.cells #[.int .i64 pc, .string pr, .int .i64 pv, .slice A1 g.length c1, .string pb] 26))) := ((Below.refl _ _).alloc (Nat.le_refl _) _).alloc (by simp) _
      have ZQ : Hid (((w.alloc (.cells #[.string m, .string t, .int .i64 v, .slice A0 f.length c0, .string b] 24)).alloc (.cells #[.int .i64 pc, .string pr, .int .i64 pv, .slice A1 g.length c1, .string pb] 26)).heap[w.heap.size]? = some (.cells #[.string m, .string t, .int .i64 v, .slice A0 f.length c0, .string b] 24 (0, 0))) := zero_more (heap_alloc_new w _)
      have zt := heap_alloc_new (w.alloc (.cells #[.string m, .string t, .int .i64 v, .slice A0 f.length c0, .string b] 24)) (.cells #[.int .i64 pc, .string pr, .int .i64 pv, .slice A1 g.length c1, .string pb] 26)
      rw [show (w.alloc (.cells #[.string m, .string t, .int .i64 v, .slice A0 f.length c0, .string b] 24)).heap.size = w.heap.size + 1 by simp] at zt
      have ZP := Lib.hid zt
      clear zt
      obtain ⟨q0, q1, q2, q3, q4⟩ := cel5r ZQ.out
      obtain ⟨p0, p1, p2, p3, p4⟩ := cel5r ZP.out
      go_enter Tryz.func6, Tryz.ntmps6
      go_upto_region 1 with fail
      go_cut [31] (fun s wx => s = .bool (!E) ∧ Hid (wx.heap[w.heap.size]? = some (.cells #[.string m, .string t, .int .i64 v, .slice A0 f.length c0, .string b] 24 (0, 0))) ∧ Hid (wx.heap[w.heap.size + 1]? = some (.cells #[.int .i64 pc, .string pr, .int .i64 pv, .slice A1 g.length c1, .string pb] 26 (0, 0))) ∧ Hid (Below w.heap.size w wx))
      case first =>
        go_wp2_with fail
        refine (KQ.out _ HB.out).mono ?_
        rintro e v4 ⟨rfl, hb⟩
        clear q0 q1 q2 q3 q4 p0 p1 p2 p3 p4
        replace ZQ := Lib.hid (zero_still hb ZQ.out)
        replace ZP := Lib.hid (zero_still hb ZP.out)
        replace HB := Lib.hid (below_then HB.out hb)
        clear hb
        obtain ⟨q0, q1, q2, q3, q4⟩ := cel5r ZQ.out
        obtain ⟨p0, p1, p2, p3, p4⟩ := cel5r ZP.out
        go_wp2_with fail
        refine (KP.out _ HB.out).mono ?_
        rintro e v5 ⟨rfl, hb⟩
        clear q0 q1 q2 q3 q4 p0 p1 p2 p3 p4
        replace ZQ := Lib.hid (zero_still hb ZQ.out)
        replace ZP := Lib.hid (zero_still hb ZP.out)
        replace HB := Lib.hid (below_then HB.out hb)
        clear hb
        obtain ⟨q0, q1, q2, q3, q4⟩ := cel5r ZQ.out
        obtain ⟨p0, p1, p2, p3, p4⟩ := cel5r ZP.out
        by_cases h1 : f.length ≤ 60
        · have h1' : ¬ (60 : Int) < (f.length : Int) := by omega
          rw [decide_eq_true h1] at HE
          by_cases h2 : g.length ≤ 60
          · have h2' : ¬ (60 : Int) < (g.length : Int) := by omega
            rw [decide_eq_true h2] at HE
            go_wp2_with fail
            go_meet
            exact ⟨by rw [HE.out]; first | rfl | (simp; omega), ZQ.out, ZP.out, HB.out⟩
          · have h2' : (60 : Int) < (g.length : Int) := by omega
            rw [decide_eq_false h2] at HE
            go_wp2_with fail
            go_meet
            exact ⟨by rw [HE.out]; first | rfl | (simp; omega), ZQ.out, ZP.out, HB.out⟩
        · have h1' : (60 : Int) < (f.length : Int) := by omega
          rw [decide_eq_false h1] at HE
          go_wp2_with fail
          go_meet
          exact ⟨by rw [HE.out]; first | rfl | (simp; omega), ZQ.out, ZP.out, HB.out⟩
      case rest =>
        clear q0 q1 q2 q3 q4 p0 p1 p2 p3 p4
        clear ZQ ZP HB KQ KP
        obtain ⟨rfl, ZQ, ZP, HB⟩ := hcut
        obtain ⟨q0, q1, q2, q3, q4⟩ := cel5r ZQ.out
        obtain ⟨p0, p1, p2, p3, p4⟩ := cel5r ZP.out
        cases E with
        | false =>
          go_wp2_with fail
          refine (CX.out _ HB.out).mono ?_
          rintro e v9 ⟨rfl, hb⟩
          go_wp2_with fail
          go_ret
          exact ⟨rfl, below_then HB.out hb⟩
        | true =>
          have hE := HE.out
          replace hE := hE.symm
          simp only [Bool.and_eq_true, decide_eq_true_eq] at hE
          obtain ⟨hf60, hg60⟩ := hE
          clear HE
          have hQn := fwl_cons noX hf60 hQ (by decide)
          have hLn := fwl_cons noX hg60 hL (by decide)
          have hQa := fwl_cons auX hf60 hQ (by decide)
          have k7 := fun W A c (hS : SlF W A (noX :: f).length c (noX :: f)) (hW : Below w.heap.size w W) => reuS_any ⟨m, t, v, noX :: f, b⟩ A c ⟨pc, pr, pv, g, pb⟩ A1 c1 a2 W hS hQn (HFP.out W hW) hL (HT.out.kept hW)
          have k8 := fun W A c (hS : SlF W A (noX :: g).length c (noX :: g)) (hW : Below w.heap.size w W) => reuS_any ⟨m, t, v, f, b⟩ A0 c0 ⟨pc, pr, pv, noX :: g, pb⟩ A c a2 W (HFQ.out W hW) hQ hS hLn (HT.out.kept hW)
          have k9 := fun W (hW : Below w.heap.size w W) => reuS_any ⟨m, t, v, f, b⟩ A0 c0 ⟨pc, pr, pv, g, pb⟩ A1 c1 a2 W (HFQ.out W hW) hQ (HFP.out W hW) hL (HT.out.kept hW)
          have k10 := fun W (hW : Below w.heap.size w W) => ctlP_any A1 g.length c1 g W (HFP.out W hW) hL.n hL.v (fwl_bd hL)
          have k11 := fun W A c (hS : SlF W A (auX :: f).length c (auX :: f)) (hW : Below w.heap.size w W) => reuS_any ⟨m, t, v, auX :: f, b⟩ A c ⟨pc, pr, pv, g, pb⟩ A1 c1 a2 W hS hQa (HFP.out W hW) hL (HT.out.kept hW)
          have k12 := fun W (hW : Below w.heap.size w W) => lifF_any ⟨pc, pr, pv, g, pb, a2⟩ A1 c1 none 0 0 a2 W (HFP.out W hW) hL (HT.out.kept hW).lif
          have k13 := fun W (hW : Below w.heap.size w W) => reuV_any ⟨pc, pr, pv, g, pb⟩ A1 c1 W (HFP.out W hW) hL (HT.out.kept hW)
          simp only [sto_noQ] at k7
          simp only [sto_noP] at k8
          unfold rqC rpC at k7 k8 k9 k11
          unfold rpC at k13
          unfold stC at k12
          simp only at k7 k8 k9 k11 k12 k13
          have hsy := fun (h : stoB m f g pc a2 = true) => sto_says h
          have hau := fun (h : stoB m f g pc a2 = true) => sto_au h
          generalize stoB m f g pc a2 = sb at *
          generalize stoB m (auX :: f) g pc a2 = xa at *
          generalize frsB g pc a2 a2 = fr at *
          generalize valB g = vb at *
          generalize ctP g = cp at *
          obtain ⟨ns, nc, pv', pu, mc, oi, ma, sh, mf⟩ := cp
          unfold ctC at k10
          simp only at k10 hsy hau
          have K7 := Lib.hid k7
          have K8 := Lib.hid k8
          have K9 := Lib.hid k9
          have K10 := Lib.hid k10
          have K11 := Lib.hid k11
          have K12 := Lib.hid k12
          have K13 := Lib.hid k13
          have HSY := Lib.hid hsy
          have HAU := Lib.hid hau
          clear k7 k8 k9 k10 k11 k12 k13 hsy hau hQn hLn hQa hQ hL
          obtain ⟨W0, hW0⟩ : ∃ W, wc.alloc (.cells #[.string ⟨#[67, 65, 67, 72, 69, 45, 99, 111, 110, 116, 114, 111, 108]⟩, .string ⟨#[78, 111, 45, 83, 116, 111, 114, 101]⟩] 50) = W := ⟨_, rfl⟩
          obtain ⟨gn, hgn⟩ : ∃ q, wc.heap.size = q := ⟨_, rfl⟩
          have SN : Hid (SlF W0 (some ⟨gn, 0, none⟩) 1 1 [noX]) := (by show SlF _ _ _ _ _; rw [← hW0, ← hgn]; exact SlF.one wc 50 noX (by decide))
          have hbu : Below wc.heap.size wc W0 := (by rw [← hW0]; exact (Below.refl _ _).alloc (Nat.le_refl _) _)
          have HGN : Hid (gn < W0.heap.size) := (by show _ < _; rw [← hW0, ← hgn]; simp)
          go_upto_region 4 with fail
          clear q0 q1 q2 q3 q4 p0 p1 p2 p3 p4
          replace ZQ := Lib.hid (zero_still hbu ZQ.out)
          replace ZP := Lib.hid (zero_still hbu ZP.out)
          replace HB := Lib.hid (below_then HB.out hbu)
          try rw [hW0]
          try rw [hgn]
          clear hbu hW0 hgn
          go_cut [8, 9] (fun x y wx => ∃ R1 R2, x = .pointer (some ⟨R1, 0, none⟩) ∧ y = .pointer (some ⟨R2, 0, none⟩) ∧ Hid (wx.heap[R1]? = some (.cells #[.string m, .string t, .int .i64 v, .slice A0 f.length c0, .string b] 24 (0, 0)) ∧ wx.heap[R2]? = some (.cells #[.int .i64 pc, .string pr, .int .i64 pv, .slice A1 g.length c1, .string pb] 26 (0, 0)) ∧ Below W0.heap.size W0 wx ∧ R1 ≠ R2 ∧ W0.heap.size ≤ R1 ∧ W0.heap.size ≤ R2))
          case first =>
            replace HB := Lib.hid (Below.refl W0.heap.size W0)
            go_wp2_with fail
            obtain ⟨u1, hu1⟩ : ∃ W, W0.drew = W := ⟨_, rfl⟩
            replace ZQ : Hid (u1.heap[w.heap.size]? = some (.cells #[.string m, .string t, .int .i64 v, .slice A0 f.length c0, .string b] 24 (0, 0))) := (by show _ = _; rw [← hu1]; exact ZQ.out)
            replace ZP : Hid (u1.heap[w.heap.size + 1]? = some (.cells #[.int .i64 pc, .string pr, .int .i64 pv, .slice A1 g.length c1, .string pb] 26 (0, 0))) := (by show _ = _; rw [← hu1]; exact ZP.out)
            replace HB : Hid (Below W0.heap.size W0 u1) := (by show Below _ _ _; rw [← hu1]; exact HB.out.drew)
            refine wp_region_held_drew (S := fun W => W.cell? ⟨w.heap.size, 0, none⟩ = some (.string m) ∧ W.cell? ⟨w.heap.size, 1, none⟩ = some (.string t) ∧ W.cell? ⟨w.heap.size, 2, none⟩ = some (.int .i64 v) ∧ W.cell? ⟨w.heap.size, 3, none⟩ = some (.slice A0 f.length c0) ∧ W.cell? ⟨w.heap.size, 4, none⟩ = some (.string b) ∧ W.cell? ⟨w.heap.size + 1, 0, none⟩ = some (.int .i64 pc) ∧ W.cell? ⟨w.heap.size + 1, 1, none⟩ = some (.string pr) ∧ W.cell? ⟨w.heap.size + 1, 2, none⟩ = some (.int .i64 pv) ∧ W.cell? ⟨w.heap.size + 1, 3, none⟩ = some (.slice A1 g.length c1) ∧ W.cell? ⟨w.heap.size + 1, 4, none⟩ = some (.string pb)) (by kernel_rfl) (by rw [hu1]; exact ⟨(cel5r ZQ.out).1, (cel5r ZQ.out).2.1, (cel5r ZQ.out).2.2.1, (cel5r ZQ.out).2.2.2.1, (cel5r ZQ.out).2.2.2.2, (cel5r ZP.out).1, (cel5r ZP.out).2.1, (cel5r ZP.out).2.2.1, (cel5r ZP.out).2.2.2.1, (cel5r ZP.out).2.2.2.2⟩) (fun hHeld => ?_)
            rw [hu1] at hHeld ⊢
            clear hu1
            refine takeY (i := 0) (v := ?_) rfl rfl (by kernel_rfl) (by kernel_rfl) (by kernel_rfl) (by rfl) (fun _ _ _ h => h) ?y1 (by assumption) ?r1
            case y1 => (intro w hSw; (try dsimp only at hSw); go_simp; try with_reducible rfl)
            try simp only [Act.put, List.setIfInBounds_toArray, List.set_cons_zero, List.set_cons_succ]
            refine takeY (i := 1) (v := ?_) rfl rfl (by kernel_rfl) (by kernel_rfl) (by kernel_rfl) (by rfl) (fun _ _ _ h => h) ?y2 (by assumption) ?r2
            case y2 => (intro w hSw; (try dsimp only at hSw); go_simp; try with_reducible rfl)
            try simp only [Act.put, List.setIfInBounds_toArray, List.set_cons_zero, List.set_cons_succ]
            refine wpAnyH_ready (rs := [2, 3]) (by kernel_rfl) (by simp) (AllReadyH.cons rfl (fun K hK => ?_) (AllReadyH.cons rfl (fun K hK => ?_) AllReadyH.nil))
            · go_simp
              obtain ⟨u2, hu2⟩ : ∃ W, u1.alloc (.cells #[.string ⟨#[]⟩, .string ⟨#[]⟩, .int .i64 0, .slice none 0 0, .string ⟨#[]⟩] 24) = W := ⟨_, rfl⟩
              obtain ⟨ga, hga⟩ : ∃ g, u1.heap.size = g := ⟨_, rfl⟩
              rw [hu2, hga]
              have nZQga : w.heap.size < ga := (by rw [← hga]; exact (Array.getElem?_eq_some_iff.1 ZQ.out).1)
              have nZPga : w.heap.size + 1 < ga := (by rw [← hga]; exact (Array.getElem?_eq_some_iff.1 ZP.out).1)
              replace ZQ : Hid (u2.heap[w.heap.size]? = some (.cells #[.string m, .string t, .int .i64 v, .slice A0 f.length c0, .string b] 24 (0, 0))) := (by show _ = _; rw [← hu2]; exact zero_more ZQ.out)
              replace ZP : Hid (u2.heap[w.heap.size + 1]? = some (.cells #[.int .i64 pc, .string pr, .int .i64 pv, .slice A1 g.length c1, .string pb] 26 (0, 0))) := (by show _ = _; rw [← hu2]; exact zero_more ZP.out)
              have Tga : Hid (u2.heap[ga]? = some (.cells #[.string ⟨#[]⟩, .string ⟨#[]⟩, .int .i64 0, .slice none 0 0, .string ⟨#[]⟩] 24 (0, 0))) := (by show _ = _; rw [← hu2, ← hga]; exact heap_alloc_new u1 _)
              have nbga : W0.heap.size ≤ ga := (by rw [← hga]; exact HB.out.size)
              replace HB : Hid (Below W0.heap.size W0 u2) := (by show Below _ _ _; rw [← hu2]; exact HB.out.alloc HB.out.size _)
              clear hu2 hga
              refine hK.out _ _ (⟨(cel5r ZQ.out).1, (cel5r ZQ.out).2.1, (cel5r ZQ.out).2.2.1, (cel5r ZQ.out).2.2.2.1, (cel5r ZQ.out).2.2.2.2, (cel5r ZP.out).1, (cel5r ZP.out).2.1, (cel5r ZP.out).2.2.1, (cel5r ZP.out).2.2.2.1, (cel5r ZP.out).2.2.2.2⟩) (fun hHeld => ?_)
              clear hK
              try simp only [Act.put, List.setIfInBounds_toArray, List.set_cons_zero, List.set_cons_succ]
              refine wpAnyH_ready (rs := [3]) (by kernel_rfl) (by simp) (AllReadyH.cons rfl (fun K hK => ?_) AllReadyH.nil)
              go_simp
              obtain ⟨u3, hu3⟩ : ∃ W, u2.alloc (.cells #[.int .i64 0, .string ⟨#[]⟩, .int .i64 0, .slice none 0 0, .string ⟨#[]⟩] 26) = W := ⟨_, rfl⟩
              obtain ⟨gb, hgb⟩ : ∃ g, u2.heap.size = g := ⟨_, rfl⟩
              rw [hu3, hgb]
              have nZQgb : w.heap.size < gb := (by rw [← hgb]; exact (Array.getElem?_eq_some_iff.1 ZQ.out).1)
              have nZPgb : w.heap.size + 1 < gb := (by rw [← hgb]; exact (Array.getElem?_eq_some_iff.1 ZP.out).1)
              have nTgagb : ga < gb := (by rw [← hgb]; exact (Array.getElem?_eq_some_iff.1 Tga.out).1)
              replace ZQ : Hid (u3.heap[w.heap.size]? = some (.cells #[.string m, .string t, .int .i64 v, .slice A0 f.length c0, .string b] 24 (0, 0))) := (by show _ = _; rw [← hu3]; exact zero_more ZQ.out)
              replace ZP : Hid (u3.heap[w.heap.size + 1]? = some (.cells #[.int .i64 pc, .string pr, .int .i64 pv, .slice A1 g.length c1, .string pb] 26 (0, 0))) := (by show _ = _; rw [← hu3]; exact zero_more ZP.out)
              replace Tga : Hid (u3.heap[ga]? = some (.cells #[.string ⟨#[]⟩, .string ⟨#[]⟩, .int .i64 0, .slice none 0 0, .string ⟨#[]⟩] 24 (0, 0))) := (by show _ = _; rw [← hu3]; exact zero_more Tga.out)
              have Tgb : Hid (u3.heap[gb]? = some (.cells #[.int .i64 0, .string ⟨#[]⟩, .int .i64 0, .slice none 0 0, .string ⟨#[]⟩] 26 (0, 0))) := (by show _ = _; rw [← hu3, ← hgb]; exact heap_alloc_new u2 _)
              have nbgb : W0.heap.size ≤ gb := (by rw [← hgb]; exact HB.out.size)
              replace HB : Hid (Below W0.heap.size W0 u3) := (by show Below _ _ _; rw [← hu3]; exact HB.out.alloc HB.out.size _)
              clear hu3 hgb
              refine hK.out _ _ (⟨(cel5r ZQ.out).1, (cel5r ZQ.out).2.1, (cel5r ZQ.out).2.2.1, (cel5r ZQ.out).2.2.2.1, (cel5r ZQ.out).2.2.2.2, (cel5r ZP.out).1, (cel5r ZP.out).2.1, (cel5r ZP.out).2.2.1, (cel5r ZP.out).2.2.2.1, (cel5r ZP.out).2.2.2.2⟩) (fun hHeld => ?_)
              clear hK
              try simp only [Act.put, List.setIfInBounds_toArray, List.set_cons_zero, List.set_cons_succ]
              refine wpAnyH_ready (rs := [4]) (by kernel_rfl) (by simp) (AllReadyH.cons rfl (fun K hK => ?_) AllReadyH.nil)
              refine step_store_row rfl _ _ _ rfl ga #[.string m, .string t, .int .i64 v, .slice A0 f.length c0, .string b] rfl rfl 24 #[.string ⟨#[]⟩, .string ⟨#[]⟩, .int .i64 0, .slice none 0 0, .string ⟨#[]⟩] Tga.out (by kernel_rfl) rfl (by simp [Value.oneCell']) ?_
              obtain ⟨u4, hu4⟩ : ∃ W, u3.setRow ga #[.string m, .string t, .int .i64 v, .slice A0 f.length c0, .string b] = W := ⟨_, rfl⟩
              rw [hu4]
              replace ZQ : Hid (u4.heap[w.heap.size]? = some (.cells #[.string m, .string t, .int .i64 v, .slice A0 f.length c0, .string b] 24 (0, 0))) := (by show _ = _; rw [← hu4, setRow_other _ _ _ _ (by omega)]; exact ZQ.out)
              replace ZP : Hid (u4.heap[w.heap.size + 1]? = some (.cells #[.int .i64 pc, .string pr, .int .i64 pv, .slice A1 g.length c1, .string pb] 26 (0, 0))) := (by show _ = _; rw [← hu4, setRow_other _ _ _ _ (by omega)]; exact ZP.out)
              replace Tgb : Hid (u4.heap[gb]? = some (.cells #[.int .i64 0, .string ⟨#[]⟩, .int .i64 0, .slice none 0 0, .string ⟨#[]⟩] 26 (0, 0))) := (by show _ = _; rw [← hu4, setRow_other _ _ _ _ (by omega)]; exact Tgb.out)
              replace Tga : Hid (u4.heap[ga]? = some (.cells #[.string m, .string t, .int .i64 v, .slice A0 f.length c0, .string b] 24 (0, 0))) := (by show _ = _; rw [← hu4]; exact setRow_heap _ _ _ _ _ _ Tga.out)
              replace HB : Hid (Below W0.heap.size W0 u4) := (by show Below _ _ _; rw [← hu4]; exact below_setRow HB.out nbga _)
              clear hu4
              refine hK.out _ _ (⟨(cel5r ZQ.out).1, (cel5r ZQ.out).2.1, (cel5r ZQ.out).2.2.1, (cel5r ZQ.out).2.2.2.1, (cel5r ZQ.out).2.2.2.2, (cel5r ZP.out).1, (cel5r ZP.out).2.1, (cel5r ZP.out).2.2.1, (cel5r ZP.out).2.2.2.1, (cel5r ZP.out).2.2.2.2⟩) (fun hHeld => ?_)
              clear hK
              try simp only [Act.put, List.setIfInBounds_toArray, List.set_cons_zero, List.set_cons_succ]
              refine wpAnyH_ready (rs := [5]) (by kernel_rfl) (by simp) (AllReadyH.cons rfl (fun K hK => ?_) AllReadyH.nil)
              refine step_store_row rfl _ _ _ rfl gb #[.int .i64 pc, .string pr, .int .i64 pv, .slice A1 g.length c1, .string pb] rfl rfl 26 #[.int .i64 0, .string ⟨#[]⟩, .int .i64 0, .slice none 0 0, .string ⟨#[]⟩] Tgb.out (by kernel_rfl) rfl (by simp [Value.oneCell']) ?_
              obtain ⟨u5, hu5⟩ : ∃ W, u4.setRow gb #[.int .i64 pc, .string pr, .int .i64 pv, .slice A1 g.length c1, .string pb] = W := ⟨_, rfl⟩
              rw [hu5]
              replace ZQ : Hid (u5.heap[w.heap.size]? = some (.cells #[.string m, .string t, .int .i64 v, .slice A0 f.length c0, .string b] 24 (0, 0))) := (by show _ = _; rw [← hu5, setRow_other _ _ _ _ (by omega)]; exact ZQ.out)
              replace ZP : Hid (u5.heap[w.heap.size + 1]? = some (.cells #[.int .i64 pc, .string pr, .int .i64 pv, .slice A1 g.length c1, .string pb] 26 (0, 0))) := (by show _ = _; rw [← hu5, setRow_other _ _ _ _ (by omega)]; exact ZP.out)
              replace Tga : Hid (u5.heap[ga]? = some (.cells #[.string m, .string t, .int .i64 v, .slice A0 f.length c0, .string b] 24 (0, 0))) := (by show _ = _; rw [← hu5, setRow_other _ _ _ _ (by omega)]; exact Tga.out)
              replace Tgb : Hid (u5.heap[gb]? = some (.cells #[.int .i64 pc, .string pr, .int .i64 pv, .slice A1 g.length c1, .string pb] 26 (0, 0))) := (by show _ = _; rw [← hu5]; exact setRow_heap _ _ _ _ _ _ Tgb.out)
              replace HB : Hid (Below W0.heap.size W0 u5) := (by show Below _ _ _; rw [← hu5]; exact below_setRow HB.out nbgb _)
              clear hu5
              refine hK.out _ _ (⟨(cel5r ZQ.out).1, (cel5r ZQ.out).2.1, (cel5r ZQ.out).2.2.1, (cel5r ZQ.out).2.2.2.1, (cel5r ZQ.out).2.2.2.2, (cel5r ZP.out).1, (cel5r ZP.out).2.1, (cel5r ZP.out).2.2.1, (cel5r ZP.out).2.2.2.1, (cel5r ZP.out).2.2.2.2⟩) (fun hHeld => ?_)
              clear hK
              try simp only [Act.put, List.setIfInBounds_toArray, List.set_cons_zero, List.set_cons_succ]
              refine wpAnyH_done (by kernel_rfl) ?_ _
              go_wp2_with fail
              go_meet
              exact ⟨ga, gb, rfl, rfl, Tga.out, Tgb.out, HB.out, by omega, nbga, nbgb⟩
            · go_simp
              obtain ⟨u6, hu6⟩ : ∃ W, u1.alloc (.cells #[.int .i64 0, .string ⟨#[]⟩, .int .i64 0, .slice none 0 0, .string ⟨#[]⟩] 26) = W := ⟨_, rfl⟩
              obtain ⟨gb, hgb⟩ : ∃ g, u1.heap.size = g := ⟨_, rfl⟩
              rw [hu6, hgb]
              have nZQgb : w.heap.size < gb := (by rw [← hgb]; exact (Array.getElem?_eq_some_iff.1 ZQ.out).1)
              have nZPgb : w.heap.size + 1 < gb := (by rw [← hgb]; exact (Array.getElem?_eq_some_iff.1 ZP.out).1)
              replace ZQ : Hid (u6.heap[w.heap.size]? = some (.cells #[.string m, .string t, .int .i64 v, .slice A0 f.length c0, .string b] 24 (0, 0))) := (by show _ = _; rw [← hu6]; exact zero_more ZQ.out)
              replace ZP : Hid (u6.heap[w.heap.size + 1]? = some (.cells #[.int .i64 pc, .string pr, .int .i64 pv, .slice A1 g.length c1, .string pb] 26 (0, 0))) := (by show _ = _; rw [← hu6]; exact zero_more ZP.out)
              have Tgb : Hid (u6.heap[gb]? = some (.cells #[.int .i64 0, .string ⟨#[]⟩, .int .i64 0, .slice none 0 0, .string ⟨#[]⟩] 26 (0, 0))) := (by show _ = _; rw [← hu6, ← hgb]; exact heap_alloc_new u1 _)
              have nbgb : W0.heap.size ≤ gb := (by rw [← hgb]; exact HB.out.size)
              replace HB : Hid (Below W0.heap.size W0 u6) := (by show Below _ _ _; rw [← hu6]; exact HB.out.alloc HB.out.size _)
              clear hu6 hgb
              refine hK.out _ _ (⟨(cel5r ZQ.out).1, (cel5r ZQ.out).2.1, (cel5r ZQ.out).2.2.1, (cel5r ZQ.out).2.2.2.1, (cel5r ZQ.out).2.2.2.2, (cel5r ZP.out).1, (cel5r ZP.out).2.1, (cel5r ZP.out).2.2.1, (cel5r ZP.out).2.2.2.1, (cel5r ZP.out).2.2.2.2⟩) (fun hHeld => ?_)
              clear hK
              try simp only [Act.put, List.setIfInBounds_toArray, List.set_cons_zero, List.set_cons_succ]
              refine wpAnyH_ready (rs := [2]) (by kernel_rfl) (by simp) (AllReadyH.cons rfl (fun K hK => ?_) AllReadyH.nil)
              go_simp
              obtain ⟨u7, hu7⟩ : ∃ W, u6.alloc (.cells #[.string ⟨#[]⟩, .string ⟨#[]⟩, .int .i64 0, .slice none 0 0, .string ⟨#[]⟩] 24) = W := ⟨_, rfl⟩
              obtain ⟨ga, hga⟩ : ∃ g, u6.heap.size = g := ⟨_, rfl⟩
              rw [hu7, hga]
              have nZQga : w.heap.size < ga := (by rw [← hga]; exact (Array.getElem?_eq_some_iff.1 ZQ.out).1)
              have nZPga : w.heap.size + 1 < ga := (by rw [← hga]; exact (Array.getElem?_eq_some_iff.1 ZP.out).1)
              have nTgbga : gb < ga := (by rw [← hga]; exact (Array.getElem?_eq_some_iff.1 Tgb.out).1)
              replace ZQ : Hid (u7.heap[w.heap.size]? = some (.cells #[.string m, .string t, .int .i64 v, .slice A0 f.length c0, .string b] 24 (0, 0))) := (by show _ = _; rw [← hu7]; exact zero_more ZQ.out)
              replace ZP : Hid (u7.heap[w.heap.size + 1]? = some (.cells #[.int .i64 pc, .string pr, .int .i64 pv, .slice A1 g.length c1, .string pb] 26 (0, 0))) := (by show _ = _; rw [← hu7]; exact zero_more ZP.out)
              replace Tgb : Hid (u7.heap[gb]? = some (.cells #[.int .i64 0, .string ⟨#[]⟩, .int .i64 0, .slice none 0 0, .string ⟨#[]⟩] 26 (0, 0))) := (by show _ = _; rw [← hu7]; exact zero_more Tgb.out)
              have Tga : Hid (u7.heap[ga]? = some (.cells #[.string ⟨#[]⟩, .string ⟨#[]⟩, .int .i64 0, .slice none 0 0, .string ⟨#[]⟩] 24 (0, 0))) := (by show _ = _; rw [← hu7, ← hga]; exact heap_alloc_new u6 _)
              have nbga : W0.heap.size ≤ ga := (by rw [← hga]; exact HB.out.size)
              replace HB : Hid (Below W0.heap.size W0 u7) := (by show Below _ _ _; rw [← hu7]; exact HB.out.alloc HB.out.size _)
              clear hu7 hga
              refine hK.out _ _ (⟨(cel5r ZQ.out).1, (cel5r ZQ.out).2.1, (cel5r ZQ.out).2.2.1, (cel5r ZQ.out).2.2.2.1, (cel5r ZQ.out).2.2.2.2, (cel5r ZP.out).1, (cel5r ZP.out).2.1, (cel5r ZP.out).2.2.1, (cel5r ZP.out).2.2.2.1, (cel5r ZP.out).2.2.2.2⟩) (fun hHeld => ?_)
              clear hK
              try simp only [Act.put, List.setIfInBounds_toArray, List.set_cons_zero, List.set_cons_succ]
              refine wpAnyH_ready (rs := [4]) (by kernel_rfl) (by simp) (AllReadyH.cons rfl (fun K hK => ?_) AllReadyH.nil)
              refine step_store_row rfl _ _ _ rfl ga #[.string m, .string t, .int .i64 v, .slice A0 f.length c0, .string b] rfl rfl 24 #[.string ⟨#[]⟩, .string ⟨#[]⟩, .int .i64 0, .slice none 0 0, .string ⟨#[]⟩] Tga.out (by kernel_rfl) rfl (by simp [Value.oneCell']) ?_
              obtain ⟨u8, hu8⟩ : ∃ W, u7.setRow ga #[.string m, .string t, .int .i64 v, .slice A0 f.length c0, .string b] = W := ⟨_, rfl⟩
              rw [hu8]
              replace ZQ : Hid (u8.heap[w.heap.size]? = some (.cells #[.string m, .string t, .int .i64 v, .slice A0 f.length c0, .string b] 24 (0, 0))) := (by show _ = _; rw [← hu8, setRow_other _ _ _ _ (by omega)]; exact ZQ.out)
              replace ZP : Hid (u8.heap[w.heap.size + 1]? = some (.cells #[.int .i64 pc, .string pr, .int .i64 pv, .slice A1 g.length c1, .string pb] 26 (0, 0))) := (by show _ = _; rw [← hu8, setRow_other _ _ _ _ (by omega)]; exact ZP.out)
              replace Tgb : Hid (u8.heap[gb]? = some (.cells #[.int .i64 0, .string ⟨#[]⟩, .int .i64 0, .slice none 0 0, .string ⟨#[]⟩] 26 (0, 0))) := (by show _ = _; rw [← hu8, setRow_other _ _ _ _ (by omega)]; exact Tgb.out)
              replace Tga : Hid (u8.heap[ga]? = some (.cells #[.string m, .string t, .int .i64 v, .slice A0 f.length c0, .string b] 24 (0, 0))) := (by show _ = _; rw [← hu8]; exact setRow_heap _ _ _ _ _ _ Tga.out)
              replace HB : Hid (Below W0.heap.size W0 u8) := (by show Below _ _ _; rw [← hu8]; exact below_setRow HB.out nbga _)
              clear hu8
              refine hK.out _ _ (⟨(cel5r ZQ.out).1, (cel5r ZQ.out).2.1, (cel5r ZQ.out).2.2.1, (cel5r ZQ.out).2.2.2.1, (cel5r ZQ.out).2.2.2.2, (cel5r ZP.out).1, (cel5r ZP.out).2.1, (cel5r ZP.out).2.2.1, (cel5r ZP.out).2.2.2.1, (cel5r ZP.out).2.2.2.2⟩) (fun hHeld => ?_)
              clear hK
              try simp only [Act.put, List.setIfInBounds_toArray, List.set_cons_zero, List.set_cons_succ]
              refine wpAnyH_ready (rs := [5]) (by kernel_rfl) (by simp) (AllReadyH.cons rfl (fun K hK => ?_) AllReadyH.nil)
              refine step_store_row rfl _ _ _ rfl gb #[.int .i64 pc, .string pr, .int .i64 pv, .slice A1 g.length c1, .string pb] rfl rfl 26 #[.int .i64 0, .string ⟨#[]⟩, .int .i64 0, .slice none 0 0, .string ⟨#[]⟩] Tgb.out (by kernel_rfl) rfl (by simp [Value.oneCell']) ?_
              obtain ⟨u9, hu9⟩ : ∃ W, u8.setRow gb #[.int .i64 pc, .string pr, .int .i64 pv, .slice A1 g.length c1, .string pb] = W := ⟨_, rfl⟩
              rw [hu9]
              replace ZQ : Hid (u9.heap[w.heap.size]? = some (.cells #[.string m, .string t, .int .i64 v, .slice A0 f.length c0, .string b] 24 (0, 0))) := (by show _ = _; rw [← hu9, setRow_other _ _ _ _ (by omega)]; exact ZQ.out)
              replace ZP : Hid (u9.heap[w.heap.size + 1]? = some (.cells #[.int .i64 pc, .string pr, .int .i64 pv, .slice A1 g.length c1, .string pb] 26 (0, 0))) := (by show _ = _; rw [← hu9, setRow_other _ _ _ _ (by omega)]; exact ZP.out)
              replace Tga : Hid (u9.heap[ga]? = some (.cells #[.string m, .string t, .int .i64 v, .slice A0 f.length c0, .string b] 24 (0, 0))) := (by show _ = _; rw [← hu9, setRow_other _ _ _ _ (by omega)]; exact Tga.out)
              replace Tgb : Hid (u9.heap[gb]? = some (.cells #[.int .i64 pc, .string pr, .int .i64 pv, .slice A1 g.length c1, .string pb] 26 (0, 0))) := (by show _ = _; rw [← hu9]; exact setRow_heap _ _ _ _ _ _ Tgb.out)
              replace HB : Hid (Below W0.heap.size W0 u9) := (by show Below _ _ _; rw [← hu9]; exact below_setRow HB.out nbgb _)
              clear hu9
              refine hK.out _ _ (⟨(cel5r ZQ.out).1, (cel5r ZQ.out).2.1, (cel5r ZQ.out).2.2.1, (cel5r ZQ.out).2.2.2.1, (cel5r ZQ.out).2.2.2.2, (cel5r ZP.out).1, (cel5r ZP.out).2.1, (cel5r ZP.out).2.2.1, (cel5r ZP.out).2.2.2.1, (cel5r ZP.out).2.2.2.2⟩) (fun hHeld => ?_)
              clear hK
              try simp only [Act.put, List.setIfInBounds_toArray, List.set_cons_zero, List.set_cons_succ]
              refine wpAnyH_done (by kernel_rfl) ?_ _
              go_wp2_with fail
              go_meet
              exact ⟨ga, gb, rfl, rfl, Tga.out, Tgb.out, HB.out, by omega, nbga, nbgb⟩
          case rest =>
            obtain ⟨R1, R2, rfl, rfl, HC⟩ := hcut
            have hb := HC.out.2.2.1
            have Z1 := Lib.hid HC.out.1
            have Z2 := Lib.hid HC.out.2.1
            have HNE := Lib.hid HC.out.2.2.2
            have HW0 := Lib.hid (show w.heap.size + 1 < W0.heap.size from (Array.getElem?_eq_some_iff.1 ZP.out).1)
            clear HC
            replace ZQ := Lib.hid (zero_still hb ZQ.out)
            replace ZP := Lib.hid (zero_still hb ZP.out)
            replace SN := Lib.hid (SN.out.below hb)
            replace HB := Lib.hid (below_then HB.out hb)
            clear hb
            have hlt2 : R2 < wc.heap.size := (Array.getElem?_eq_some_iff.1 Z2.out).1
            obtain ⟨q0, q1, q2, q3, q4⟩ := cel5r ZQ.out
            obtain ⟨p0, p1, p2, p3, p4⟩ := cel5r ZP.out
            obtain ⟨x0, x1, x2, x3, x4⟩ := cel5r Z1.out
            obtain ⟨y0, y1, y2, y3, y4⟩ := cel5r Z2.out
            have hbw := HB.out
            go_upto_region 6 with (at_builtin; refine wpList_append_slf_full rfl _ _ 22 rfl 50 Tryz.underlying22 (by kernel_rfl) (some ⟨gn, 0, none⟩) 1 rfl [noX] (SN.out) A0 f.length c0 rfl f (HFQ.out _ HB.out) (by simp; omega) ?_; intro A5 c5 u5 hs5 hw5 hb; obtain ⟨z3, zf⟩ := row_at (zero_still hb Z1.out) 3 _ rfl)
            clear z3 zf hbw
            clear q0 q1 q2 q3 q4 p0 p1 p2 p3 p4 x0 x1 x2 x3 x4 y0 y1 y2 y3 y4
            have hlt5 : R1 < wc.heap.size := (Array.getElem?_eq_some_iff.1 Z1.out).1
            obtain ⟨V5, hV5⟩ : ∃ V, (u5.setCell ⟨R1, 3, none⟩ (.slice A5 (1 + f.length) c5)) = V := ⟨_, rfl⟩
            replace ZQ : Hid (V5.heap[w.heap.size]? = some (.cells #[.string m, .string t, .int .i64 v, .slice A0 f.length c0, .string b] 24 (0, 0))) := (by show _ = _; rw [← hV5]; exact sfar (by have := HNE.out; have := HW0.out; (try have := HGC.out); omega) (zero_still hb ZQ.out))
            replace ZP : Hid (V5.heap[w.heap.size + 1]? = some (.cells #[.int .i64 pc, .string pr, .int .i64 pv, .slice A1 g.length c1, .string pb] 26 (0, 0))) := (by show _ = _; rw [← hV5]; exact sfar (by have := HNE.out; have := HW0.out; (try have := HGC.out); omega) (zero_still hb ZP.out))
            replace Z2 : Hid (V5.heap[R2]? = some (.cells #[.int .i64 pc, .string pr, .int .i64 pv, .slice A1 g.length c1, .string pb] 26 (0, 0))) := (by show _ = _; rw [← hV5]; exact sfar (by have := HNE.out; have := HW0.out; (try have := HGC.out); omega) (zero_still hb Z2.out))
            replace Z1 : Hid (V5.heap[R1]? = some (.cells #[.string m, .string t, .int .i64 v, .slice A5 (1 + f.length) c5, .string b] 24 (0, 0))) := (by show _ = _; rw [← hV5]; exact row_set (k := 3) (zero_still hb Z1.out) (.slice A5 (1 + f.length) c5))
            have hne5 : ∀ ad, A5 = some ad → ad.block ≠ R1 := fun ad e h => by
              rcases hw5 with h1 | h1
              · rw [h1] at e; cases e; have := HNE.out; have := HGN.out; (try have := HGC.out); (try simp at h); omega
              · have := h1 ad e; omega
            have S5 : Hid (SlF V5 A5 (1 + f.length) c5 (noX :: f)) := (by show SlF _ _ _ _ _; rw [← hV5]; exact SlF.setFar hs5 hne5 _)
            replace HB : Hid (Below w.heap.size w V5) := (by show Below _ _ _; rw [← hV5]; exact (below_then HB.out hb).setCell (p := ⟨R1, 3, none⟩) (by show _ ≤ R1; have := HNE.out; have := HW0.out; omega) _)
            have hfar_S5_Z2 : ∀ ad, A5 = some ad → ad.block ≠ R2 := fun ad e h => by
              rcases hw5 with h1 | h1
              · rw [h1] at e; cases e; have := HNE.out; have := HGN.out; simp at h; omega
              · have := h1 ad e; omega
            replace SN : Hid (SlF V5 (some ⟨gn, 0, none⟩) 1 1 [noX]) := (by show SlF _ _ _ _ _; rw [← hV5]; exact SlF.setFar (SN.out.below hb) (fun ad e h => by cases e; have := HNE.out; have := HGN.out; simp at h; omega) _)
            try rw [hV5]
            try (rw [Nat.add_comm 1 f.length] at hV5; rw [hV5])
            have e5 : 1 + f.length = (noX :: f).length := by rw [List.length_cons]; omega
            rw [e5] at Z1 S5
            try rw [e5]
            clear hb hV5 hs5 hlt5
            clear hw5 hne5 hlt2
            obtain ⟨q0, q1, q2, q3, q4⟩ := cel5r ZQ.out
            obtain ⟨p0, p1, p2, p3, p4⟩ := cel5r ZP.out
            obtain ⟨x0, x1, x2, x3, x4⟩ := cel5r Z1.out
            obtain ⟨y0, y1, y2, y3, y4⟩ := cel5r Z2.out
            have hbw := HB.out
            go_upto_region 7 with (at_builtin; refine wpList_append_slf_full rfl _ _ 22 rfl 50 Tryz.underlying22 (by kernel_rfl) (some ⟨gn, 0, none⟩) 1 rfl [noX] (SN.out) A1 g.length c1 rfl g (HFP.out _ HB.out) (by simp; omega) ?_; intro A6 c6 u6 hs6 hw6 hb; obtain ⟨z3, zf⟩ := row_at (zero_still hb Z2.out) 3 _ rfl)
            clear z3 zf hbw
            clear q0 q1 q2 q3 q4 p0 p1 p2 p3 p4 x0 x1 x2 x3 x4 y0 y1 y2 y3 y4
            have hlt6 : R2 < V5.heap.size := (Array.getElem?_eq_some_iff.1 Z2.out).1
            obtain ⟨V6, hV6⟩ : ∃ V, (u6.setCell ⟨R2, 3, none⟩ (.slice A6 (1 + g.length) c6)) = V := ⟨_, rfl⟩
            replace ZQ : Hid (V6.heap[w.heap.size]? = some (.cells #[.string m, .string t, .int .i64 v, .slice A0 f.length c0, .string b] 24 (0, 0))) := (by show _ = _; rw [← hV6]; exact sfar (by have := HNE.out; have := HW0.out; (try have := HGC.out); omega) (zero_still hb ZQ.out))
            replace ZP : Hid (V6.heap[w.heap.size + 1]? = some (.cells #[.int .i64 pc, .string pr, .int .i64 pv, .slice A1 g.length c1, .string pb] 26 (0, 0))) := (by show _ = _; rw [← hV6]; exact sfar (by have := HNE.out; have := HW0.out; (try have := HGC.out); omega) (zero_still hb ZP.out))
            replace Z1 : Hid (V6.heap[R1]? = some (.cells #[.string m, .string t, .int .i64 v, .slice A5 (noX :: f).length c5, .string b] 24 (0, 0))) := (by show _ = _; rw [← hV6]; exact sfar (by have := HNE.out; have := HW0.out; (try have := HGC.out); omega) (zero_still hb Z1.out))
            replace Z2 : Hid (V6.heap[R2]? = some (.cells #[.int .i64 pc, .string pr, .int .i64 pv, .slice A6 (1 + g.length) c6, .string pb] 26 (0, 0))) := (by show _ = _; rw [← hV6]; exact row_set (k := 3) (zero_still hb Z2.out) (.slice A6 (1 + g.length) c6))
            have hne6 : ∀ ad, A6 = some ad → ad.block ≠ R2 := fun ad e h => by
              rcases hw6 with h1 | h1
              · rw [h1] at e; cases e; have := HNE.out; have := HGN.out; (try have := HGC.out); (try simp at h); omega
              · have := h1 ad e; omega
            have S6 : Hid (SlF V6 A6 (1 + g.length) c6 (noX :: g)) := (by show SlF _ _ _ _ _; rw [← hV6]; exact SlF.setFar hs6 hne6 _)
            replace HB : Hid (Below w.heap.size w V6) := (by show Below _ _ _; rw [← hV6]; exact (below_then HB.out hb).setCell (p := ⟨R2, 3, none⟩) (by show _ ≤ R2; have := HNE.out; have := HW0.out; omega) _)
            replace S5 : Hid (SlF V6 A5 (noX :: f).length c5 (noX :: f)) := (by show SlF _ _ _ _ _; rw [← hV6]; exact SlF.setFar (S5.out.below hb) (hfar_S5_Z2) _)
            try rw [hV6]
            try (rw [Nat.add_comm 1 g.length] at hV6; rw [hV6])
            have e6 : 1 + g.length = (noX :: g).length := by rw [List.length_cons]; omega
            rw [e6] at Z2 S6
            try rw [e6]
            clear hb hV6 hs6 hlt6
            clear hw6 hne6 hfar_S5_Z2 SN
            obtain ⟨q0, q1, q2, q3, q4⟩ := cel5r ZQ.out
            obtain ⟨p0, p1, p2, p3, p4⟩ := cel5r ZP.out
            obtain ⟨x0, x1, x2, x3, x4⟩ := cel5r Z1.out
            obtain ⟨y0, y1, y2, y3, y4⟩ := cel5r Z2.out
            go_wp2_with fail
            refine (K7.out _ _ _ S5.out HB.out).mono ?_
            rintro e v6 ⟨rfl, hb⟩
            clear q0 q1 q2 q3 q4 p0 p1 p2 p3 p4 x0 x1 x2 x3 x4 y0 y1 y2 y3 y4
            replace ZQ := Lib.hid (zero_still hb ZQ.out)
            replace ZP := Lib.hid (zero_still hb ZP.out)
            replace Z1 := Lib.hid (zero_still hb Z1.out)
            replace Z2 := Lib.hid (zero_still hb Z2.out)
            replace S5 := Lib.hid (S5.out.below hb)
            replace S6 := Lib.hid (S6.out.below hb)
            replace HB := Lib.hid (below_then HB.out hb)
            clear hb
            obtain ⟨q0, q1, q2, q3, q4⟩ := cel5r ZQ.out
            obtain ⟨p0, p1, p2, p3, p4⟩ := cel5r ZP.out
            obtain ⟨x0, x1, x2, x3, x4⟩ := cel5r Z1.out
            obtain ⟨y0, y1, y2, y3, y4⟩ := cel5r Z2.out
            go_wp2_with fail
            refine (K8.out _ _ _ S6.out HB.out).mono ?_
            rintro e v7 ⟨rfl, hb⟩
            clear q0 q1 q2 q3 q4 p0 p1 p2 p3 p4 x0 x1 x2 x3 x4 y0 y1 y2 y3 y4
            replace ZQ := Lib.hid (zero_still hb ZQ.out)
            replace ZP := Lib.hid (zero_still hb ZP.out)
            replace Z1 := Lib.hid (zero_still hb Z1.out)
            replace Z2 := Lib.hid (zero_still hb Z2.out)
            replace S5 := Lib.hid (S5.out.below hb)
            replace S6 := Lib.hid (S6.out.below hb)
            replace HB := Lib.hid (below_then HB.out hb)
            clear hb
            clear S5 S6 K7 K8
            obtain ⟨q0, q1, q2, q3, q4⟩ := cel5r ZQ.out
            obtain ⟨p0, p1, p2, p3, p4⟩ := cel5r ZP.out
            obtain ⟨x0, x1, x2, x3, x4⟩ := cel5r Z1.out
            obtain ⟨y0, y1, y2, y3, y4⟩ := cel5r Z2.out
            go_wp2_with fail
            refine (K9.out _ HB.out).mono ?_
            rintro e v8 ⟨rfl, hb⟩
            clear q0 q1 q2 q3 q4 p0 p1 p2 p3 p4 x0 x1 x2 x3 x4 y0 y1 y2 y3 y4
            replace ZQ := Lib.hid (zero_still hb ZQ.out)
            replace ZP := Lib.hid (zero_still hb ZP.out)
            replace Z1 := Lib.hid (zero_still hb Z1.out)
            replace Z2 := Lib.hid (zero_still hb Z2.out)
            replace HB := Lib.hid (below_then HB.out hb)
            clear hb
            obtain ⟨q0, q1, q2, q3, q4⟩ := cel5r ZQ.out
            obtain ⟨p0, p1, p2, p3, p4⟩ := cel5r ZP.out
            obtain ⟨x0, x1, x2, x3, x4⟩ := cel5r Z1.out
            obtain ⟨y0, y1, y2, y3, y4⟩ := cel5r Z2.out
            cases sb with
            | false =>
              go_wp2_with fail
              refine (CX.out _ HB.out).mono ?_
              rintro e v9 ⟨rfl, hb⟩
              go_wp2_with fail
              go_ret
              exact ⟨rfl, below_then HB.out hb⟩
            | true =>
              obtain ⟨g1, g2, g3, g4, g5, g6⟩ := HSY.out rfl
              have hxa := HAU.out rfl
              clear HSY HAU K9
              subst g2 g3 hxa
              go_wp2_with fail
              refine (K10.out _ HB.out).mono ?_
              rintro e v9 ⟨rfl, hb⟩
              clear q0 q1 q2 q3 q4 p0 p1 p2 p3 p4 x0 x1 x2 x3 x4 y0 y1 y2 y3 y4
              replace ZQ := Lib.hid (zero_still hb ZQ.out)
              replace ZP := Lib.hid (zero_still hb ZP.out)
              replace Z1 := Lib.hid (zero_still hb Z1.out)
              replace Z2 := Lib.hid (zero_still hb Z2.out)
              replace HB := Lib.hid (below_then HB.out hb)
              clear hb
              have hr1 : R1 < v9.heap.size := (Array.getElem?_eq_some_iff.1 Z1.out).1
              have hbu : Below v9.heap.size v9 ((v9.alloc (.cells #[.bool false, .bool nc, .bool false, .bool pu, .bool mc, .bool oi, .int .i64 ma, .int .i64 sh, .int .i64 mf] 44)).alloc (.cells #[.string ⟨#[97, 117, 116, 104, 111, 114, 105, 122, 97, 116, 105, 111, 110]⟩, .string ⟨#[120]⟩] 50)) := alls_below [.cells #[.bool false, .bool nc, .bool false, .bool pu, .bool mc, .bool oi, .int .i64 ma, .int .i64 sh, .int .i64 mf] 44, .cells #[.string ⟨#[97, 117, 116, 104, 111, 114, 105, 122, 97, 116, 105, 111, 110]⟩, .string ⟨#[120]⟩] 50] v9
              replace ZQ := Lib.hid (zero_still hbu ZQ.out)
              replace ZP := Lib.hid (zero_still hbu ZP.out)
              replace Z1 := Lib.hid (zero_still hbu Z1.out)
              replace Z2 := Lib.hid (zero_still hbu Z2.out)
              replace HB := Lib.hid (below_then HB.out hbu)
              have zn : ((v9.alloc (.cells #[.bool false, .bool nc, .bool false, .bool pu, .bool mc, .bool oi, .int .i64 ma, .int .i64 sh, .int .i64 mf] 44)).alloc (.cells #[.string ⟨#[97, 117, 116, 104, 111, 114, 105, 122, 97, 116, 105, 111, 110]⟩, .string ⟨#[120]⟩] 50)).heap[v9.heap.size]? = some (.cells #[.bool false, .bool nc, .bool false, .bool pu, .bool mc, .bool oi, .int .i64 ma, .int .i64 sh, .int .i64 mf] 44 (0, 0)) := alls_at [.cells #[.bool false, .bool nc, .bool false, .bool pu, .bool mc, .bool oi, .int .i64 ma, .int .i64 sh, .int .i64 mf] 44, .cells #[.string ⟨#[97, 117, 116, 104, 111, 114, 105, 122, 97, 116, 105, 111, 110]⟩, .string ⟨#[120]⟩] 50] v9 0 _ rfl
              have sa : SlF ((v9.alloc (.cells #[.bool false, .bool nc, .bool false, .bool pu, .bool mc, .bool oi, .int .i64 ma, .int .i64 sh, .int .i64 mf] 44)).alloc (.cells #[.string ⟨#[97, 117, 116, 104, 111, 114, 105, 122, 97, 116, 105, 111, 110]⟩, .string ⟨#[120]⟩] 50)) (some ⟨v9.heap.size + 1, 0, none⟩) 1 1 [auX] := slf_row (L := [auX]) rfl (alls_at [.cells #[.bool false, .bool nc, .bool false, .bool pu, .bool mc, .bool oi, .int .i64 ma, .int .i64 sh, .int .i64 mf] 44, .cells #[.string ⟨#[97, 117, 116, 104, 111, 114, 105, 122, 97, 116, 105, 111, 110]⟩, .string ⟨#[120]⟩] 50] v9 1 _ rfl) (by decide) (by decide)
              obtain ⟨gc, hgc⟩ : ∃ q, v9.heap.size = q := ⟨_, rfl⟩
              rw [hgc] at zn hr1 sa
              have ZC := Lib.hid zn
              have SA := Lib.hid sa
              have HGC := Lib.hid hr1
              clear hbu zn sa hr1 K10
              obtain ⟨q0, q1, q2, q3, q4⟩ := cel5r ZQ.out
              obtain ⟨p0, p1, p2, p3, p4⟩ := cel5r ZP.out
              obtain ⟨x0, x1, x2, x3, x4⟩ := cel5r Z1.out
              obtain ⟨d0, d1, d2, d3, d4, d5, d6, d7, d8⟩ := cel9r ZC.out
              have hbw := HB.out
              go_upto_region 13 with (at_builtin; refine wpList_append_slf_full rfl _ _ 22 rfl 50 Tryz.underlying22 (by kernel_rfl) (some ⟨gc + 1, 0, none⟩) 1 rfl [auX] (SA.out) A0 f.length c0 rfl f (HFQ.out _ HB.out) (by simp; omega) ?_; intro A7 c7 u7 hs7 hw7 hb; obtain ⟨z3, zf⟩ := row_at (zero_still hb Z1.out) 3 _ rfl)
              clear z3 zf hbw
              clear q0 q1 q2 q3 q4 p0 p1 p2 p3 p4 x0 x1 x2 x3 x4 d0 d1 d2 d3 d4 d5 d6 d7 d8
              have hlt7 : R1 < ((v9.alloc (.cells #[.bool false, .bool nc, .bool false, .bool pu, .bool mc, .bool oi, .int .i64 ma, .int .i64 sh, .int .i64 mf] 44)).alloc (.cells #[.string ⟨#[97, 117, 116, 104, 111, 114, 105, 122, 97, 116, 105, 111, 110]⟩, .string ⟨#[120]⟩] 50)).heap.size := (Array.getElem?_eq_some_iff.1 Z1.out).1
              obtain ⟨V7, hV7⟩ : ∃ V, (u7.setCell ⟨R1, 3, none⟩ (.slice A7 (1 + f.length) c7)) = V := ⟨_, rfl⟩
              replace ZQ : Hid (V7.heap[w.heap.size]? = some (.cells #[.string m, .string t, .int .i64 v, .slice A0 f.length c0, .string b] 24 (0, 0))) := (by show _ = _; rw [← hV7]; exact sfar (by have := HNE.out; have := HW0.out; (try have := HGC.out); omega) (zero_still hb ZQ.out))
              replace ZP : Hid (V7.heap[w.heap.size + 1]? = some (.cells #[.int .i64 pc, .string pr, .int .i64 pv, .slice A1 g.length c1, .string pb] 26 (0, 0))) := (by show _ = _; rw [← hV7]; exact sfar (by have := HNE.out; have := HW0.out; (try have := HGC.out); omega) (zero_still hb ZP.out))
              replace ZC : Hid (V7.heap[gc]? = some (.cells #[.bool false, .bool nc, .bool false, .bool pu, .bool mc, .bool oi, .int .i64 ma, .int .i64 sh, .int .i64 mf] 44 (0, 0))) := (by show _ = _; rw [← hV7]; exact sfar (by have := HNE.out; have := HW0.out; (try have := HGC.out); omega) (zero_still hb ZC.out))
              replace Z1 : Hid (V7.heap[R1]? = some (.cells #[.string m, .string t, .int .i64 v, .slice A7 (1 + f.length) c7, .string b] 24 (0, 0))) := (by show _ = _; rw [← hV7]; exact row_set (k := 3) (zero_still hb Z1.out) (.slice A7 (1 + f.length) c7))
              have hne7 : ∀ ad, A7 = some ad → ad.block ≠ R1 := fun ad e h => by
                rcases hw7 with h1 | h1
                · rw [h1] at e; cases e; have := HNE.out; have := HGN.out; (try have := HGC.out); (try simp at h); omega
                · have := h1 ad e; omega
              have S7 : Hid (SlF V7 A7 (1 + f.length) c7 (auX :: f)) := (by show SlF _ _ _ _ _; rw [← hV7]; exact SlF.setFar hs7 hne7 _)
              replace HB : Hid (Below w.heap.size w V7) := (by show Below _ _ _; rw [← hV7]; exact (below_then HB.out hb).setCell (p := ⟨R1, 3, none⟩) (by show _ ≤ R1; have := HNE.out; have := HW0.out; omega) _)
              try rw [hV7]
              try (rw [Nat.add_comm 1 f.length] at hV7; rw [hV7])
              have e7 : 1 + f.length = (auX :: f).length := by rw [List.length_cons]; omega
              rw [e7] at Z1 S7
              try rw [e7]
              clear hb hV7 hs7 hlt7
              clear hw7 hne7 SA hgc
              go_cut [87] (fun s wx => s = .bool false ∧ Hid (wx.heap[w.heap.size + 1]? = some (.cells #[.int .i64 pc, .string pr, .int .i64 pv, .slice A1 g.length c1, .string pb] 26 (0, 0))) ∧ Hid (wx.heap[w.heap.size]? = some (.cells #[.string m, .string t, .int .i64 v, .slice A0 f.length c0, .string b] 24 (0, 0))) ∧ Hid (wx.heap[gc]? = some (.cells #[.bool false, .bool nc, .bool false, .bool pu, .bool mc, .bool oi, .int .i64 ma, .int .i64 sh, .int .i64 mf] 44 (0, 0))) ∧ Hid (Below w.heap.size w wx))
              case first =>
                cases pu with
                | true =>
                  have hx : (true || (mc || decide (0 ≤ sh))) = true := rfl
                  rw [hx] at K11
                  replace ZQ : Hid (V7.drew.heap[w.heap.size]? = some (.cells #[.string m, .string t, .int .i64 v, .slice A0 f.length c0, .string b] 24 (0, 0))) := ZQ.out
                  replace ZP : Hid (V7.drew.heap[w.heap.size + 1]? = some (.cells #[.int .i64 pc, .string pr, .int .i64 pv, .slice A1 g.length c1, .string pb] 26 (0, 0))) := ZP.out
                  replace Z1 : Hid (V7.drew.heap[R1]? = some (.cells #[.string m, .string t, .int .i64 v, .slice A7 (auX :: f).length c7, .string b] 24 (0, 0))) := Z1.out
                  replace ZC : Hid (V7.drew.heap[gc]? = some (.cells #[.bool false, .bool nc, .bool false, .bool true, .bool mc, .bool oi, .int .i64 ma, .int .i64 sh, .int .i64 mf] 44 (0, 0))) := ZC.out
                  replace HB := Lib.hid HB.out.drew
                  replace S7 := Lib.hid S7.out.drew
                  go_wp2_with fail
                  refine wp_region_held_drew (S := fun W => W.cell? ⟨R1, 0, none⟩ = some (.string m) ∧ W.cell? ⟨R1, 1, none⟩ = some (.string t) ∧ W.cell? ⟨R1, 2, none⟩ = some (.int .i64 v) ∧ W.cell? ⟨R1, 3, none⟩ = some (.slice A7 (auX :: f).length c7) ∧ W.cell? ⟨R1, 4, none⟩ = some (.string b) ∧ W.cell? ⟨w.heap.size + 1, 0, none⟩ = some (.int .i64 pc) ∧ W.cell? ⟨w.heap.size + 1, 1, none⟩ = some (.string pr) ∧ W.cell? ⟨w.heap.size + 1, 2, none⟩ = some (.int .i64 pv) ∧ W.cell? ⟨w.heap.size + 1, 3, none⟩ = some (.slice A1 g.length c1) ∧ W.cell? ⟨w.heap.size + 1, 4, none⟩ = some (.string pb) ∧ W.cell? ⟨gc, 3, none⟩ = some (.bool true) ∧ W.cell? ⟨gc, 4, none⟩ = some (.bool mc) ∧ W.cell? ⟨gc, 7, none⟩ = some (.int .i64 sh)) (by kernel_rfl) (⟨(cel5r Z1.out).1, (cel5r Z1.out).2.1, (cel5r Z1.out).2.2.1, (cel5r Z1.out).2.2.2.1, (cel5r Z1.out).2.2.2.2, (cel5r ZP.out).1, (cel5r ZP.out).2.1, (cel5r ZP.out).2.2.1, (cel5r ZP.out).2.2.2.1, (cel5r ZP.out).2.2.2.2, (cel9r ZC.out).2.2.2.1, (cel9r ZC.out).2.2.2.2.1, (cel9r ZC.out).2.2.2.2.2.2.2.1⟩) (fun hHeld => ?_)
                  refine takeY (i := 0) (v := ?_) rfl rfl (by kernel_rfl) (by kernel_rfl) (by kernel_rfl) (by rfl) (fun _ _ _ h => h) ?zay1 (by assumption) ?zar1
                  case zay1 => (intro w hSw; (try dsimp only at hSw); go_simp; try with_reducible rfl)
                  try simp only [Act.put, List.setIfInBounds_toArray, List.set_cons_zero, List.set_cons_succ]
                  refine takeY (i := 1) (v := ?_) rfl rfl (by kernel_rfl) (by kernel_rfl) (by kernel_rfl) (by rfl) (fun _ _ _ h => h) ?zay2 (by assumption) ?zar2
                  case zay2 => (intro w hSw; (try dsimp only at hSw); go_simp; try with_reducible rfl)
                  try simp only [Act.put, List.setIfInBounds_toArray, List.set_cons_zero, List.set_cons_succ]
                  refine takeY (i := 2) (v := ?_) rfl rfl (by kernel_rfl) (by kernel_rfl) (by kernel_rfl) (by rfl) (fun _ _ _ h => h) ?zay3 (by assumption) ?zar3
                  case zay3 => (intro w hSw; (try dsimp only at hSw); go_simp; try with_reducible rfl)
                  try simp only [Act.put, List.setIfInBounds_toArray, List.set_cons_zero, List.set_cons_succ]
                  refine takeY (i := 4) (v := ?_) rfl rfl (by kernel_rfl) (by kernel_rfl) (by kernel_rfl) (by rfl) (fun _ _ _ h => h) ?zay4 (by assumption) ?zar4
                  case zay4 => (intro w hSw; (try dsimp only at hSw); go_simp; try with_reducible rfl)
                  try simp only [Act.put, List.setIfInBounds_toArray, List.set_cons_zero, List.set_cons_succ]
                  refine takeY (i := 5) (v := ?_) rfl rfl (by kernel_rfl) (by kernel_rfl) (by kernel_rfl) (by rfl) (fun _ _ _ h => h) ?zay5 (by assumption) ?zar5
                  case zay5 => (intro w hSw; (try dsimp only at hSw); go_simp; try with_reducible rfl)
                  try simp only [Act.put, List.setIfInBounds_toArray, List.set_cons_zero, List.set_cons_succ]
                  refine wpAnyH_ready (rs := [3]) (by kernel_rfl) (by simp) (AllReadyH.cons rfl (fun K hK => ?_) AllReadyH.nil)
                  go_simp
                  go_at_call 12
                  refine (K11.out _ _ _ S7.out HB.out).mono ?_
                  rintro e u13 ⟨rfl, hb⟩
                  replace ZQ := Lib.hid (zero_still hb ZQ.out)
                  replace ZP := Lib.hid (zero_still hb ZP.out)
                  replace Z1 := Lib.hid (zero_still hb Z1.out)
                  replace ZC := Lib.hid (zero_still hb ZC.out)
                  replace HB := Lib.hid (below_then HB.out hb)
                  clear hb
                  go_wp2_with fail
                  refine hK.out _ _ (⟨(cel5r Z1.out).1, (cel5r Z1.out).2.1, (cel5r Z1.out).2.2.1, (cel5r Z1.out).2.2.2.1, (cel5r Z1.out).2.2.2.2, (cel5r ZP.out).1, (cel5r ZP.out).2.1, (cel5r ZP.out).2.2.1, (cel5r ZP.out).2.2.2.1, (cel5r ZP.out).2.2.2.2, (cel9r ZC.out).2.2.2.1, (cel9r ZC.out).2.2.2.2.1, (cel9r ZC.out).2.2.2.2.2.2.2.1⟩) (fun hHeld => ?_)
                  clear hK
                  try simp only [Act.put, List.setIfInBounds_toArray, List.set_cons_zero, List.set_cons_succ]
                  refine takeY (i := 6) (v := ?_) rfl rfl (by kernel_rfl) (by kernel_rfl) (by kernel_rfl) (by rfl) (fun _ _ _ h => h) ?zay6 (by assumption) ?zar6
                  case zay6 => (intro w hSw; (try dsimp only at hSw); go_simp; try with_reducible rfl)
                  try simp only [Act.put, List.setIfInBounds_toArray, List.set_cons_zero, List.set_cons_succ]
                  refine takeN (i := 7) rfl rfl (by kernel_rfl) (by kernel_rfl) (by kernel_rfl) (by rfl) (fun _ _ _ h => h) (by assumption) ?_
                  try simp only [Act.put, List.setIfInBounds_toArray, List.set_cons_zero, List.set_cons_succ]
                  refine takeN (i := 8) rfl rfl (by kernel_rfl) (by kernel_rfl) (by kernel_rfl) (by rfl) (fun _ _ _ h => h) (by assumption) ?_
                  try simp only [Act.put, List.setIfInBounds_toArray, List.set_cons_zero, List.set_cons_succ]
                  refine takeY (i := 9) (v := ?_) rfl rfl (by kernel_rfl) (by kernel_rfl) (by kernel_rfl) (by rfl) (fun _ _ _ h => h) ?zay7 (by assumption) ?zar7
                  case zay7 => (intro w hSw; (try dsimp only at hSw); go_simp; try with_reducible rfl)
                  try simp only [Act.put, List.setIfInBounds_toArray, List.set_cons_zero, List.set_cons_succ]
                  refine takeY (i := 10) (v := ?_) rfl rfl (by kernel_rfl) (by kernel_rfl) (by kernel_rfl) (by rfl) (fun _ _ _ h => h) ?zay8 (by assumption) ?zar8
                  case zay8 => (intro w hSw; (try dsimp only at hSw); go_simp; try with_reducible rfl)
                  try simp only [Act.put, List.setIfInBounds_toArray, List.set_cons_zero, List.set_cons_succ]
                  refine takeN (i := 11) rfl rfl (by kernel_rfl) (by kernel_rfl) (by kernel_rfl) (by rfl) (fun _ _ _ h => h) (by assumption) ?_
                  try simp only [Act.put, List.setIfInBounds_toArray, List.set_cons_zero, List.set_cons_succ]
                  refine takeN (i := 12) rfl rfl (by kernel_rfl) (by kernel_rfl) (by kernel_rfl) (by rfl) (fun _ _ _ h => h) (by assumption) ?_
                  try simp only [Act.put, List.setIfInBounds_toArray, List.set_cons_zero, List.set_cons_succ]
                  refine takeN (i := 13) rfl rfl (by kernel_rfl) (by kernel_rfl) (by kernel_rfl) (by rfl) (fun _ _ _ h => h) (by assumption) ?_
                  try simp only [Act.put, List.setIfInBounds_toArray, List.set_cons_zero, List.set_cons_succ]
                  refine takeY (i := 14) (v := ?_) rfl rfl (by kernel_rfl) (by kernel_rfl) (by kernel_rfl) (by rfl) (fun _ _ _ h => h) ?zay9 (by assumption) ?zar9
                  case zay9 => (intro w hSw; (try dsimp only at hSw); go_simp; try with_reducible rfl)
                  try simp only [Act.put, List.setIfInBounds_toArray, List.set_cons_zero, List.set_cons_succ]
                  refine takeY (i := 15) (v := ?_) rfl rfl (by kernel_rfl) (by kernel_rfl) (by kernel_rfl) (by rfl) (fun _ _ _ h => h) ?zay10 (by assumption) ?zar10
                  case zay10 => (intro w hSw; (try dsimp only at hSw); go_simp; try with_reducible rfl)
                  try simp only [Act.put, List.setIfInBounds_toArray, List.set_cons_zero, List.set_cons_succ]
                  refine wpAnyH_done (by kernel_rfl) ?_ _
                  go_wp2_with fail
                  go_meet
                  exact ⟨by first | rfl | simp, ZP.out, ZQ.out, ZC.out, HB.out⟩
                | false =>
                  cases mc with
                  | true =>
                    have hx : (false || (true || decide (0 ≤ sh))) = true := rfl
                    rw [hx] at K11
                    replace ZQ : Hid (V7.drew.heap[w.heap.size]? = some (.cells #[.string m, .string t, .int .i64 v, .slice A0 f.length c0, .string b] 24 (0, 0))) := ZQ.out
                    replace ZP : Hid (V7.drew.heap[w.heap.size + 1]? = some (.cells #[.int .i64 pc, .string pr, .int .i64 pv, .slice A1 g.length c1, .string pb] 26 (0, 0))) := ZP.out
                    replace Z1 : Hid (V7.drew.heap[R1]? = some (.cells #[.string m, .string t, .int .i64 v, .slice A7 (auX :: f).length c7, .string b] 24 (0, 0))) := Z1.out
                    replace ZC : Hid (V7.drew.heap[gc]? = some (.cells #[.bool false, .bool nc, .bool false, .bool false, .bool true, .bool oi, .int .i64 ma, .int .i64 sh, .int .i64 mf] 44 (0, 0))) := ZC.out
                    replace HB := Lib.hid HB.out.drew
                    replace S7 := Lib.hid S7.out.drew
                    go_wp2_with fail
                    refine wp_region_held_drew (S := fun W => W.cell? ⟨R1, 0, none⟩ = some (.string m) ∧ W.cell? ⟨R1, 1, none⟩ = some (.string t) ∧ W.cell? ⟨R1, 2, none⟩ = some (.int .i64 v) ∧ W.cell? ⟨R1, 3, none⟩ = some (.slice A7 (auX :: f).length c7) ∧ W.cell? ⟨R1, 4, none⟩ = some (.string b) ∧ W.cell? ⟨w.heap.size + 1, 0, none⟩ = some (.int .i64 pc) ∧ W.cell? ⟨w.heap.size + 1, 1, none⟩ = some (.string pr) ∧ W.cell? ⟨w.heap.size + 1, 2, none⟩ = some (.int .i64 pv) ∧ W.cell? ⟨w.heap.size + 1, 3, none⟩ = some (.slice A1 g.length c1) ∧ W.cell? ⟨w.heap.size + 1, 4, none⟩ = some (.string pb) ∧ W.cell? ⟨gc, 3, none⟩ = some (.bool false) ∧ W.cell? ⟨gc, 4, none⟩ = some (.bool true) ∧ W.cell? ⟨gc, 7, none⟩ = some (.int .i64 sh)) (by kernel_rfl) (⟨(cel5r Z1.out).1, (cel5r Z1.out).2.1, (cel5r Z1.out).2.2.1, (cel5r Z1.out).2.2.2.1, (cel5r Z1.out).2.2.2.2, (cel5r ZP.out).1, (cel5r ZP.out).2.1, (cel5r ZP.out).2.2.1, (cel5r ZP.out).2.2.2.1, (cel5r ZP.out).2.2.2.2, (cel9r ZC.out).2.2.2.1, (cel9r ZC.out).2.2.2.2.1, (cel9r ZC.out).2.2.2.2.2.2.2.1⟩) (fun hHeld => ?_)
                    refine takeY (i := 0) (v := ?_) rfl rfl (by kernel_rfl) (by kernel_rfl) (by kernel_rfl) (by rfl) (fun _ _ _ h => h) ?zby1 (by assumption) ?zbr1
                    case zby1 => (intro w hSw; (try dsimp only at hSw); go_simp; try with_reducible rfl)
                    try simp only [Act.put, List.setIfInBounds_toArray, List.set_cons_zero, List.set_cons_succ]
                    refine takeY (i := 1) (v := ?_) rfl rfl (by kernel_rfl) (by kernel_rfl) (by kernel_rfl) (by rfl) (fun _ _ _ h => h) ?zby2 (by assumption) ?zbr2
                    case zby2 => (intro w hSw; (try dsimp only at hSw); go_simp; try with_reducible rfl)
                    try simp only [Act.put, List.setIfInBounds_toArray, List.set_cons_zero, List.set_cons_succ]
                    refine takeY (i := 2) (v := ?_) rfl rfl (by kernel_rfl) (by kernel_rfl) (by kernel_rfl) (by rfl) (fun _ _ _ h => h) ?zby3 (by assumption) ?zbr3
                    case zby3 => (intro w hSw; (try dsimp only at hSw); go_simp; try with_reducible rfl)
                    try simp only [Act.put, List.setIfInBounds_toArray, List.set_cons_zero, List.set_cons_succ]
                    refine takeY (i := 4) (v := ?_) rfl rfl (by kernel_rfl) (by kernel_rfl) (by kernel_rfl) (by rfl) (fun _ _ _ h => h) ?zby4 (by assumption) ?zbr4
                    case zby4 => (intro w hSw; (try dsimp only at hSw); go_simp; try with_reducible rfl)
                    try simp only [Act.put, List.setIfInBounds_toArray, List.set_cons_zero, List.set_cons_succ]
                    refine takeY (i := 5) (v := ?_) rfl rfl (by kernel_rfl) (by kernel_rfl) (by kernel_rfl) (by rfl) (fun _ _ _ h => h) ?zby5 (by assumption) ?zbr5
                    case zby5 => (intro w hSw; (try dsimp only at hSw); go_simp; try with_reducible rfl)
                    try simp only [Act.put, List.setIfInBounds_toArray, List.set_cons_zero, List.set_cons_succ]
                    refine wpAnyH_ready (rs := [3]) (by kernel_rfl) (by simp) (AllReadyH.cons rfl (fun K hK => ?_) AllReadyH.nil)
                    go_simp
                    go_at_call 12
                    refine (K11.out _ _ _ S7.out HB.out).mono ?_
                    rintro e u13 ⟨rfl, hb⟩
                    replace ZQ := Lib.hid (zero_still hb ZQ.out)
                    replace ZP := Lib.hid (zero_still hb ZP.out)
                    replace Z1 := Lib.hid (zero_still hb Z1.out)
                    replace ZC := Lib.hid (zero_still hb ZC.out)
                    replace HB := Lib.hid (below_then HB.out hb)
                    clear hb
                    go_wp2_with fail
                    refine hK.out _ _ (⟨(cel5r Z1.out).1, (cel5r Z1.out).2.1, (cel5r Z1.out).2.2.1, (cel5r Z1.out).2.2.2.1, (cel5r Z1.out).2.2.2.2, (cel5r ZP.out).1, (cel5r ZP.out).2.1, (cel5r ZP.out).2.2.1, (cel5r ZP.out).2.2.2.1, (cel5r ZP.out).2.2.2.2, (cel9r ZC.out).2.2.2.1, (cel9r ZC.out).2.2.2.2.1, (cel9r ZC.out).2.2.2.2.2.2.2.1⟩) (fun hHeld => ?_)
                    clear hK
                    try simp only [Act.put, List.setIfInBounds_toArray, List.set_cons_zero, List.set_cons_succ]
                    refine takeY (i := 6) (v := ?_) rfl rfl (by kernel_rfl) (by kernel_rfl) (by kernel_rfl) (by rfl) (fun _ _ _ h => h) ?zby6 (by assumption) ?zbr6
                    case zby6 => (intro w hSw; (try dsimp only at hSw); go_simp; try with_reducible rfl)
                    try simp only [Act.put, List.setIfInBounds_toArray, List.set_cons_zero, List.set_cons_succ]
                    refine takeY (i := 7) (v := ?_) rfl rfl (by kernel_rfl) (by kernel_rfl) (by kernel_rfl) (by rfl) (fun _ _ _ h => h) ?zby7 (by assumption) ?zbr7
                    case zby7 => (intro w hSw; (try dsimp only at hSw); go_simp; try with_reducible rfl)
                    try simp only [Act.put, List.setIfInBounds_toArray, List.set_cons_zero, List.set_cons_succ]
                    refine takeY (i := 8) (v := ?_) rfl rfl (by kernel_rfl) (by kernel_rfl) (by kernel_rfl) (by rfl) (fun _ _ _ h => h) ?zby8 (by assumption) ?zbr8
                    case zby8 => (intro w hSw; (try dsimp only at hSw); go_simp; try with_reducible rfl)
                    try simp only [Act.put, List.setIfInBounds_toArray, List.set_cons_zero, List.set_cons_succ]
                    refine takeY (i := 9) (v := ?_) rfl rfl (by kernel_rfl) (by kernel_rfl) (by kernel_rfl) (by rfl) (fun _ _ _ h => h) ?zby9 (by assumption) ?zbr9
                    case zby9 => (intro w hSw; (try dsimp only at hSw); go_simp; try with_reducible rfl)
                    try simp only [Act.put, List.setIfInBounds_toArray, List.set_cons_zero, List.set_cons_succ]
                    refine takeY (i := 10) (v := ?_) rfl rfl (by kernel_rfl) (by kernel_rfl) (by kernel_rfl) (by rfl) (fun _ _ _ h => h) ?zby10 (by assumption) ?zbr10
                    case zby10 => (intro w hSw; (try dsimp only at hSw); go_simp; try with_reducible rfl)
                    try simp only [Act.put, List.setIfInBounds_toArray, List.set_cons_zero, List.set_cons_succ]
                    refine takeN (i := 11) rfl rfl (by kernel_rfl) (by kernel_rfl) (by kernel_rfl) (by rfl) (fun _ _ _ h => h) (by assumption) ?_
                    try simp only [Act.put, List.setIfInBounds_toArray, List.set_cons_zero, List.set_cons_succ]
                    refine takeN (i := 12) rfl rfl (by kernel_rfl) (by kernel_rfl) (by kernel_rfl) (by rfl) (fun _ _ _ h => h) (by assumption) ?_
                    try simp only [Act.put, List.setIfInBounds_toArray, List.set_cons_zero, List.set_cons_succ]
                    refine takeN (i := 13) rfl rfl (by kernel_rfl) (by kernel_rfl) (by kernel_rfl) (by rfl) (fun _ _ _ h => h) (by assumption) ?_
                    try simp only [Act.put, List.setIfInBounds_toArray, List.set_cons_zero, List.set_cons_succ]
                    refine takeY (i := 14) (v := ?_) rfl rfl (by kernel_rfl) (by kernel_rfl) (by kernel_rfl) (by rfl) (fun _ _ _ h => h) ?zby11 (by assumption) ?zbr11
                    case zby11 => (intro w hSw; (try dsimp only at hSw); go_simp; try with_reducible rfl)
                    try simp only [Act.put, List.setIfInBounds_toArray, List.set_cons_zero, List.set_cons_succ]
                    refine takeY (i := 15) (v := ?_) rfl rfl (by kernel_rfl) (by kernel_rfl) (by kernel_rfl) (by rfl) (fun _ _ _ h => h) ?zby12 (by assumption) ?zbr12
                    case zby12 => (intro w hSw; (try dsimp only at hSw); go_simp; try with_reducible rfl)
                    try simp only [Act.put, List.setIfInBounds_toArray, List.set_cons_zero, List.set_cons_succ]
                    refine wpAnyH_done (by kernel_rfl) ?_ _
                    go_wp2_with fail
                    go_meet
                    exact ⟨by first | rfl | simp, ZP.out, ZQ.out, ZC.out, HB.out⟩
                  | false =>
                    by_cases hs : 0 ≤ sh
                    · have ds : decide (0 ≤ sh) = true := decide_eq_true hs
                      have hx : (false || (false || decide (0 ≤ sh))) = true := by rw [ds]; rfl
                      rw [hx] at K11
                      replace ZQ : Hid (V7.drew.heap[w.heap.size]? = some (.cells #[.string m, .string t, .int .i64 v, .slice A0 f.length c0, .string b] 24 (0, 0))) := ZQ.out
                      replace ZP : Hid (V7.drew.heap[w.heap.size + 1]? = some (.cells #[.int .i64 pc, .string pr, .int .i64 pv, .slice A1 g.length c1, .string pb] 26 (0, 0))) := ZP.out
                      replace Z1 : Hid (V7.drew.heap[R1]? = some (.cells #[.string m, .string t, .int .i64 v, .slice A7 (auX :: f).length c7, .string b] 24 (0, 0))) := Z1.out
                      replace ZC : Hid (V7.drew.heap[gc]? = some (.cells #[.bool false, .bool nc, .bool false, .bool false, .bool false, .bool oi, .int .i64 ma, .int .i64 sh, .int .i64 mf] 44 (0, 0))) := ZC.out
                      replace HB := Lib.hid HB.out.drew
                      replace S7 := Lib.hid S7.out.drew
                      go_wp2_with fail
                      refine wp_region_held_drew (S := fun W => W.cell? ⟨R1, 0, none⟩ = some (.string m) ∧ W.cell? ⟨R1, 1, none⟩ = some (.string t) ∧ W.cell? ⟨R1, 2, none⟩ = some (.int .i64 v) ∧ W.cell? ⟨R1, 3, none⟩ = some (.slice A7 (auX :: f).length c7) ∧ W.cell? ⟨R1, 4, none⟩ = some (.string b) ∧ W.cell? ⟨w.heap.size + 1, 0, none⟩ = some (.int .i64 pc) ∧ W.cell? ⟨w.heap.size + 1, 1, none⟩ = some (.string pr) ∧ W.cell? ⟨w.heap.size + 1, 2, none⟩ = some (.int .i64 pv) ∧ W.cell? ⟨w.heap.size + 1, 3, none⟩ = some (.slice A1 g.length c1) ∧ W.cell? ⟨w.heap.size + 1, 4, none⟩ = some (.string pb) ∧ W.cell? ⟨gc, 3, none⟩ = some (.bool false) ∧ W.cell? ⟨gc, 4, none⟩ = some (.bool false) ∧ W.cell? ⟨gc, 7, none⟩ = some (.int .i64 sh)) (by kernel_rfl) (⟨(cel5r Z1.out).1, (cel5r Z1.out).2.1, (cel5r Z1.out).2.2.1, (cel5r Z1.out).2.2.2.1, (cel5r Z1.out).2.2.2.2, (cel5r ZP.out).1, (cel5r ZP.out).2.1, (cel5r ZP.out).2.2.1, (cel5r ZP.out).2.2.2.1, (cel5r ZP.out).2.2.2.2, (cel9r ZC.out).2.2.2.1, (cel9r ZC.out).2.2.2.2.1, (cel9r ZC.out).2.2.2.2.2.2.2.1⟩) (fun hHeld => ?_)
                      refine takeY (i := 0) (v := ?_) rfl rfl (by kernel_rfl) (by kernel_rfl) (by kernel_rfl) (by rfl) (fun _ _ _ h => h) ?zcy1 (by assumption) ?zcr1
                      case zcy1 => (intro w hSw; (try dsimp only at hSw); go_simp; try with_reducible rfl)
                      try simp only [Act.put, List.setIfInBounds_toArray, List.set_cons_zero, List.set_cons_succ]
                      refine takeY (i := 1) (v := ?_) rfl rfl (by kernel_rfl) (by kernel_rfl) (by kernel_rfl) (by rfl) (fun _ _ _ h => h) ?zcy2 (by assumption) ?zcr2
                      case zcy2 => (intro w hSw; (try dsimp only at hSw); go_simp; try with_reducible rfl)
                      try simp only [Act.put, List.setIfInBounds_toArray, List.set_cons_zero, List.set_cons_succ]
                      refine takeY (i := 2) (v := ?_) rfl rfl (by kernel_rfl) (by kernel_rfl) (by kernel_rfl) (by rfl) (fun _ _ _ h => h) ?zcy3 (by assumption) ?zcr3
                      case zcy3 => (intro w hSw; (try dsimp only at hSw); go_simp; try with_reducible rfl)
                      try simp only [Act.put, List.setIfInBounds_toArray, List.set_cons_zero, List.set_cons_succ]
                      refine takeY (i := 4) (v := ?_) rfl rfl (by kernel_rfl) (by kernel_rfl) (by kernel_rfl) (by rfl) (fun _ _ _ h => h) ?zcy4 (by assumption) ?zcr4
                      case zcy4 => (intro w hSw; (try dsimp only at hSw); go_simp; try with_reducible rfl)
                      try simp only [Act.put, List.setIfInBounds_toArray, List.set_cons_zero, List.set_cons_succ]
                      refine takeY (i := 5) (v := ?_) rfl rfl (by kernel_rfl) (by kernel_rfl) (by kernel_rfl) (by rfl) (fun _ _ _ h => h) ?zcy5 (by assumption) ?zcr5
                      case zcy5 => (intro w hSw; (try dsimp only at hSw); go_simp; try with_reducible rfl)
                      try simp only [Act.put, List.setIfInBounds_toArray, List.set_cons_zero, List.set_cons_succ]
                      refine wpAnyH_ready (rs := [3]) (by kernel_rfl) (by simp) (AllReadyH.cons rfl (fun K hK => ?_) AllReadyH.nil)
                      go_simp
                      go_at_call 12
                      refine (K11.out _ _ _ S7.out HB.out).mono ?_
                      rintro e u13 ⟨rfl, hb⟩
                      replace ZQ := Lib.hid (zero_still hb ZQ.out)
                      replace ZP := Lib.hid (zero_still hb ZP.out)
                      replace Z1 := Lib.hid (zero_still hb Z1.out)
                      replace ZC := Lib.hid (zero_still hb ZC.out)
                      replace HB := Lib.hid (below_then HB.out hb)
                      clear hb
                      go_wp2_with fail
                      refine hK.out _ _ (⟨(cel5r Z1.out).1, (cel5r Z1.out).2.1, (cel5r Z1.out).2.2.1, (cel5r Z1.out).2.2.2.1, (cel5r Z1.out).2.2.2.2, (cel5r ZP.out).1, (cel5r ZP.out).2.1, (cel5r ZP.out).2.2.1, (cel5r ZP.out).2.2.2.1, (cel5r ZP.out).2.2.2.2, (cel9r ZC.out).2.2.2.1, (cel9r ZC.out).2.2.2.2.1, (cel9r ZC.out).2.2.2.2.2.2.2.1⟩) (fun hHeld => ?_)
                      clear hK
                      try simp only [Act.put, List.setIfInBounds_toArray, List.set_cons_zero, List.set_cons_succ]
                      refine takeY (i := 6) (v := ?_) rfl rfl (by kernel_rfl) (by kernel_rfl) (by kernel_rfl) (by rfl) (fun _ _ _ h => h) ?zcy6 (by assumption) ?zcr6
                      case zcy6 => (intro w hSw; (try dsimp only at hSw); go_simp; try with_reducible rfl)
                      try simp only [Act.put, List.setIfInBounds_toArray, List.set_cons_zero, List.set_cons_succ]
                      refine takeY (i := 7) (v := ?_) rfl rfl (by kernel_rfl) (by kernel_rfl) (by kernel_rfl) (by rfl) (fun _ _ _ h => h) ?zcy7 (by assumption) ?zcr7
                      case zcy7 => (intro w hSw; (try dsimp only at hSw); go_simp; try with_reducible rfl)
                      try simp only [Act.put, List.setIfInBounds_toArray, List.set_cons_zero, List.set_cons_succ]
                      refine takeY (i := 8) (v := ?_) rfl rfl (by kernel_rfl) (by kernel_rfl) (by kernel_rfl) (by rfl) (fun _ _ _ h => h) ?zcy8 (by assumption) ?zcr8
                      case zcy8 => (intro w hSw; (try dsimp only at hSw); go_simp; try with_reducible rfl)
                      try simp only [Act.put, List.setIfInBounds_toArray, List.set_cons_zero, List.set_cons_succ]
                      refine takeY (i := 9) (v := ?_) rfl rfl (by kernel_rfl) (by kernel_rfl) (by kernel_rfl) (by rfl) (fun _ _ _ h => h) ?zcy9 (by assumption) ?zcr9
                      case zcy9 => (intro w hSw; (try dsimp only at hSw); go_simp; try with_reducible rfl)
                      try simp only [Act.put, List.setIfInBounds_toArray, List.set_cons_zero, List.set_cons_succ]
                      refine takeY (i := 10) (v := ?_) rfl rfl (by kernel_rfl) (by kernel_rfl) (by kernel_rfl) (by rfl) (fun _ _ _ h => h) ?zcy10 (by assumption) ?zcr10
                      case zcy10 => (intro w hSw; (try dsimp only at hSw); go_simp; try with_reducible rfl)
                      try simp only [Act.put, List.setIfInBounds_toArray, List.set_cons_zero, List.set_cons_succ]
                      refine takeY (i := 11) (v := ?_) rfl rfl (by kernel_rfl) (by kernel_rfl) (by kernel_rfl) (by rfl) (fun _ _ _ h => h) ?zcy11 (by assumption) ?zcr11
                      case zcy11 => (intro w hSw; (try dsimp only at hSw); go_simp; try with_reducible rfl)
                      try simp only [Act.put, List.setIfInBounds_toArray, List.set_cons_zero, List.set_cons_succ]
                      refine takeY (i := 12) (v := ?_) rfl rfl (by kernel_rfl) (by kernel_rfl) (by kernel_rfl) (by rfl) (fun _ _ _ h => h) ?zcy12 (by assumption) ?zcr12
                      case zcy12 => (intro w hSw; (try dsimp only at hSw); go_simp; try with_reducible rfl)
                      try simp only [Act.put, List.setIfInBounds_toArray, List.set_cons_zero, List.set_cons_succ]
                      refine takeY (i := 13) (v := ?_) rfl rfl (by kernel_rfl) (by kernel_rfl) (by kernel_rfl) (by rfl) (fun _ _ _ h => h) ?zcy13 (by assumption) ?zcr13
                      case zcy13 => (intro w hSw; (try dsimp only at hSw); go_simp; try with_reducible rfl)
                      try simp only [Act.put, List.setIfInBounds_toArray, List.set_cons_zero, List.set_cons_succ]
                      refine takeY (i := 14) (v := ?_) rfl rfl (by kernel_rfl) (by kernel_rfl) (by kernel_rfl) (by rfl) (fun _ _ _ h => h) ?zcy14 (by assumption) ?zcr14
                      case zcy14 => (intro w hSw; (try dsimp only at hSw); go_simp; try with_reducible rfl)
                      try simp only [Act.put, List.setIfInBounds_toArray, List.set_cons_zero, List.set_cons_succ]
                      refine takeY (i := 15) (v := ?_) rfl rfl (by kernel_rfl) (by kernel_rfl) (by kernel_rfl) (by rfl) (fun _ _ _ h => h) ?zcy15 (by assumption) ?zcr15
                      case zcy15 => (intro w hSw; (try dsimp only at hSw); go_simp; try with_reducible rfl)
                      try simp only [Act.put, List.setIfInBounds_toArray, List.set_cons_zero, List.set_cons_succ]
                      refine wpAnyH_done (by kernel_rfl) ?_ _
                      go_wp2_with fail
                      go_meet
                      exact ⟨by first | rfl | simp, ZP.out, ZQ.out, ZC.out, HB.out⟩
                    · have ds : decide (0 ≤ sh) = false := decide_eq_false hs
                      have hx : (false || (false || decide (0 ≤ sh))) = false := by rw [ds]; rfl
                      rw [hx] at K11
                      replace ZQ : Hid (V7.drew.heap[w.heap.size]? = some (.cells #[.string m, .string t, .int .i64 v, .slice A0 f.length c0, .string b] 24 (0, 0))) := ZQ.out
                      replace ZP : Hid (V7.drew.heap[w.heap.size + 1]? = some (.cells #[.int .i64 pc, .string pr, .int .i64 pv, .slice A1 g.length c1, .string pb] 26 (0, 0))) := ZP.out
                      replace Z1 : Hid (V7.drew.heap[R1]? = some (.cells #[.string m, .string t, .int .i64 v, .slice A7 (auX :: f).length c7, .string b] 24 (0, 0))) := Z1.out
                      replace ZC : Hid (V7.drew.heap[gc]? = some (.cells #[.bool false, .bool nc, .bool false, .bool false, .bool false, .bool oi, .int .i64 ma, .int .i64 sh, .int .i64 mf] 44 (0, 0))) := ZC.out
                      replace HB := Lib.hid HB.out.drew
                      replace S7 := Lib.hid S7.out.drew
                      go_wp2_with fail
                      refine wp_region_held_drew (S := fun W => W.cell? ⟨R1, 0, none⟩ = some (.string m) ∧ W.cell? ⟨R1, 1, none⟩ = some (.string t) ∧ W.cell? ⟨R1, 2, none⟩ = some (.int .i64 v) ∧ W.cell? ⟨R1, 3, none⟩ = some (.slice A7 (auX :: f).length c7) ∧ W.cell? ⟨R1, 4, none⟩ = some (.string b) ∧ W.cell? ⟨w.heap.size + 1, 0, none⟩ = some (.int .i64 pc) ∧ W.cell? ⟨w.heap.size + 1, 1, none⟩ = some (.string pr) ∧ W.cell? ⟨w.heap.size + 1, 2, none⟩ = some (.int .i64 pv) ∧ W.cell? ⟨w.heap.size + 1, 3, none⟩ = some (.slice A1 g.length c1) ∧ W.cell? ⟨w.heap.size + 1, 4, none⟩ = some (.string pb) ∧ W.cell? ⟨gc, 3, none⟩ = some (.bool false) ∧ W.cell? ⟨gc, 4, none⟩ = some (.bool false) ∧ W.cell? ⟨gc, 7, none⟩ = some (.int .i64 sh)) (by kernel_rfl) (⟨(cel5r Z1.out).1, (cel5r Z1.out).2.1, (cel5r Z1.out).2.2.1, (cel5r Z1.out).2.2.2.1, (cel5r Z1.out).2.2.2.2, (cel5r ZP.out).1, (cel5r ZP.out).2.1, (cel5r ZP.out).2.2.1, (cel5r ZP.out).2.2.2.1, (cel5r ZP.out).2.2.2.2, (cel9r ZC.out).2.2.2.1, (cel9r ZC.out).2.2.2.2.1, (cel9r ZC.out).2.2.2.2.2.2.2.1⟩) (fun hHeld => ?_)
                      refine takeY (i := 0) (v := ?_) rfl rfl (by kernel_rfl) (by kernel_rfl) (by kernel_rfl) (by rfl) (fun _ _ _ h => h) ?zdy1 (by assumption) ?zdr1
                      case zdy1 => (intro w hSw; (try dsimp only at hSw); go_simp; try with_reducible rfl)
                      try simp only [Act.put, List.setIfInBounds_toArray, List.set_cons_zero, List.set_cons_succ]
                      refine takeY (i := 1) (v := ?_) rfl rfl (by kernel_rfl) (by kernel_rfl) (by kernel_rfl) (by rfl) (fun _ _ _ h => h) ?zdy2 (by assumption) ?zdr2
                      case zdy2 => (intro w hSw; (try dsimp only at hSw); go_simp; try with_reducible rfl)
                      try simp only [Act.put, List.setIfInBounds_toArray, List.set_cons_zero, List.set_cons_succ]
                      refine takeY (i := 2) (v := ?_) rfl rfl (by kernel_rfl) (by kernel_rfl) (by kernel_rfl) (by rfl) (fun _ _ _ h => h) ?zdy3 (by assumption) ?zdr3
                      case zdy3 => (intro w hSw; (try dsimp only at hSw); go_simp; try with_reducible rfl)
                      try simp only [Act.put, List.setIfInBounds_toArray, List.set_cons_zero, List.set_cons_succ]
                      refine takeY (i := 4) (v := ?_) rfl rfl (by kernel_rfl) (by kernel_rfl) (by kernel_rfl) (by rfl) (fun _ _ _ h => h) ?zdy4 (by assumption) ?zdr4
                      case zdy4 => (intro w hSw; (try dsimp only at hSw); go_simp; try with_reducible rfl)
                      try simp only [Act.put, List.setIfInBounds_toArray, List.set_cons_zero, List.set_cons_succ]
                      refine takeY (i := 5) (v := ?_) rfl rfl (by kernel_rfl) (by kernel_rfl) (by kernel_rfl) (by rfl) (fun _ _ _ h => h) ?zdy5 (by assumption) ?zdr5
                      case zdy5 => (intro w hSw; (try dsimp only at hSw); go_simp; try with_reducible rfl)
                      try simp only [Act.put, List.setIfInBounds_toArray, List.set_cons_zero, List.set_cons_succ]
                      refine wpAnyH_ready (rs := [3]) (by kernel_rfl) (by simp) (AllReadyH.cons rfl (fun K hK => ?_) AllReadyH.nil)
                      go_simp
                      go_at_call 12
                      refine (K11.out _ _ _ S7.out HB.out).mono ?_
                      rintro e u13 ⟨rfl, hb⟩
                      replace ZQ := Lib.hid (zero_still hb ZQ.out)
                      replace ZP := Lib.hid (zero_still hb ZP.out)
                      replace Z1 := Lib.hid (zero_still hb Z1.out)
                      replace ZC := Lib.hid (zero_still hb ZC.out)
                      replace HB := Lib.hid (below_then HB.out hb)
                      clear hb
                      go_wp2_with fail
                      refine hK.out _ _ (⟨(cel5r Z1.out).1, (cel5r Z1.out).2.1, (cel5r Z1.out).2.2.1, (cel5r Z1.out).2.2.2.1, (cel5r Z1.out).2.2.2.2, (cel5r ZP.out).1, (cel5r ZP.out).2.1, (cel5r ZP.out).2.2.1, (cel5r ZP.out).2.2.2.1, (cel5r ZP.out).2.2.2.2, (cel9r ZC.out).2.2.2.1, (cel9r ZC.out).2.2.2.2.1, (cel9r ZC.out).2.2.2.2.2.2.2.1⟩) (fun hHeld => ?_)
                      clear hK
                      try simp only [Act.put, List.setIfInBounds_toArray, List.set_cons_zero, List.set_cons_succ]
                      refine takeY (i := 6) (v := ?_) rfl rfl (by kernel_rfl) (by kernel_rfl) (by kernel_rfl) (by rfl) (fun _ _ _ h => h) ?zdy6 (by assumption) ?zdr6
                      case zdy6 => (intro w hSw; (try dsimp only at hSw); go_simp; try with_reducible rfl)
                      try simp only [Act.put, List.setIfInBounds_toArray, List.set_cons_zero, List.set_cons_succ]
                      refine takeY (i := 7) (v := ?_) rfl rfl (by kernel_rfl) (by kernel_rfl) (by kernel_rfl) (by rfl) (fun _ _ _ h => h) ?zdy7 (by assumption) ?zdr7
                      case zdy7 => (intro w hSw; (try dsimp only at hSw); go_simp; try with_reducible rfl)
                      try simp only [Act.put, List.setIfInBounds_toArray, List.set_cons_zero, List.set_cons_succ]
                      refine takeY (i := 8) (v := ?_) rfl rfl (by kernel_rfl) (by kernel_rfl) (by kernel_rfl) (by rfl) (fun _ _ _ h => h) ?zdy8 (by assumption) ?zdr8
                      case zdy8 => (intro w hSw; (try dsimp only at hSw); go_simp; try with_reducible rfl)
                      try simp only [Act.put, List.setIfInBounds_toArray, List.set_cons_zero, List.set_cons_succ]
                      refine takeY (i := 9) (v := ?_) rfl rfl (by kernel_rfl) (by kernel_rfl) (by kernel_rfl) (by rfl) (fun _ _ _ h => h) ?zdy9 (by assumption) ?zdr9
                      case zdy9 => (intro w hSw; (try dsimp only at hSw); go_simp; try with_reducible rfl)
                      try simp only [Act.put, List.setIfInBounds_toArray, List.set_cons_zero, List.set_cons_succ]
                      refine takeY (i := 10) (v := ?_) rfl rfl (by kernel_rfl) (by kernel_rfl) (by kernel_rfl) (by rfl) (fun _ _ _ h => h) ?zdy10 (by assumption) ?zdr10
                      case zdy10 => (intro w hSw; (try dsimp only at hSw); go_simp; try with_reducible rfl)
                      try simp only [Act.put, List.setIfInBounds_toArray, List.set_cons_zero, List.set_cons_succ]
                      refine takeY (i := 11) (v := ?_) rfl rfl (by kernel_rfl) (by kernel_rfl) (by kernel_rfl) (by rfl) (fun _ _ _ h => h) ?zdy11 (by assumption) ?zdr11
                      case zdy11 => (intro w hSw; (try dsimp only at hSw); go_simp; try with_reducible rfl)
                      try simp only [Act.put, List.setIfInBounds_toArray, List.set_cons_zero, List.set_cons_succ]
                      refine takeY (i := 12) (v := ?_) rfl rfl (by kernel_rfl) (by kernel_rfl) (by kernel_rfl) (by rfl) (fun _ _ _ h => h) ?zdy12 (by assumption) ?zdr12
                      case zdy12 => (intro w hSw; (try dsimp only at hSw); go_simp; try with_reducible rfl)
                      try simp only [Act.put, List.setIfInBounds_toArray, List.set_cons_zero, List.set_cons_succ]
                      refine takeY (i := 13) (v := ?_) rfl rfl (by kernel_rfl) (by kernel_rfl) (by kernel_rfl) (by rfl) (fun _ _ _ h => h) ?zdy13 (by assumption) ?zdr13
                      case zdy13 => (intro w hSw; (try dsimp only at hSw); go_simp; try with_reducible rfl)
                      try simp only [Act.put, List.setIfInBounds_toArray, List.set_cons_zero, List.set_cons_succ]
                      refine takeY (i := 14) (v := ?_) rfl rfl (by kernel_rfl) (by kernel_rfl) (by kernel_rfl) (by rfl) (fun _ _ _ h => h) ?zdy14 (by assumption) ?zdr14
                      case zdy14 => (intro w hSw; (try dsimp only at hSw); go_simp; try with_reducible rfl)
                      try simp only [Act.put, List.setIfInBounds_toArray, List.set_cons_zero, List.set_cons_succ]
                      refine takeY (i := 15) (v := ?_) rfl rfl (by kernel_rfl) (by kernel_rfl) (by kernel_rfl) (by rfl) (fun _ _ _ h => h) ?zdy15 (by assumption) ?zdr15
                      case zdy15 => (intro w hSw; (try dsimp only at hSw); go_simp; try with_reducible rfl)
                      try simp only [Act.put, List.setIfInBounds_toArray, List.set_cons_zero, List.set_cons_succ]
                      refine wpAnyH_done (by kernel_rfl) ?_ _
                      go_wp2_with fail
                      go_meet
                      exact ⟨by first | rfl | simp, ZP.out, ZQ.out, ZC.out, HB.out⟩
              case rest =>
                clear K11 S7 Z1 ZP ZQ ZC HB
                obtain ⟨rfl, ZP, ZQ, ZC, HB⟩ := hcut
                have n5 : (pc != 206) = true := by rw [bne, g5]; rfl
                have n6 : (pc != 304) = true := by rw [bne, g6]; rfl
                obtain ⟨q0, q1, q2, q3, q4⟩ := cel5r ZQ.out
                obtain ⟨p0, p1, p2, p3, p4⟩ := cel5r ZP.out
                obtain ⟨d0, d1, d2, d3, d4, d5, d6, d7, d8⟩ := cel9r ZC.out
                go_wp2_with fail
                refine (K12.out _ HB.out).mono ?_
                rintro e v10 ⟨rfl, hb⟩
                clear q0 q1 q2 q3 q4 p0 p1 p2 p3 p4 d0 d1 d2 d3 d4 d5 d6 d7 d8
                replace ZQ := Lib.hid (zero_still hb ZQ.out)
                replace ZP := Lib.hid (zero_still hb ZP.out)
                replace ZC := Lib.hid (zero_still hb ZC.out)
                replace HB := Lib.hid (below_then HB.out hb)
                clear hb
                obtain ⟨q0, q1, q2, q3, q4⟩ := cel5r ZQ.out
                obtain ⟨p0, p1, p2, p3, p4⟩ := cel5r ZP.out
                obtain ⟨d0, d1, d2, d3, d4, d5, d6, d7, d8⟩ := cel9r ZC.out
                rcases g4 with rfl | ⟨rfl, rfl⟩
                · skip
                  go_wp2_with fail
                  refine (CX.out _ HB.out).mono ?_
                  rintro e v9 ⟨rfl, hb⟩
                  go_wp2_with fail
                  go_ret
                  exact ⟨rfl, below_then HB.out hb⟩
                · skip
                  go_wp2_with fail
                  refine (K13.out _ HB.out).mono ?_
                  rintro e v11 ⟨rfl, hb⟩
                  clear q0 q1 q2 q3 q4 p0 p1 p2 p3 p4 d0 d1 d2 d3 d4 d5 d6 d7 d8
                  replace ZQ := Lib.hid (zero_still hb ZQ.out)
                  replace ZP := Lib.hid (zero_still hb ZP.out)
                  replace ZC := Lib.hid (zero_still hb ZC.out)
                  replace HB := Lib.hid (below_then HB.out hb)
                  clear hb
                  obtain ⟨q0, q1, q2, q3, q4⟩ := cel5r ZQ.out
                  obtain ⟨p0, p1, p2, p3, p4⟩ := cel5r ZP.out
                  obtain ⟨d0, d1, d2, d3, d4, d5, d6, d7, d8⟩ := cel9r ZC.out
                  go_wp2_with fail
                  refine (CX.out _ HB.out).mono ?_
                  rintro e v9 ⟨rfl, hb⟩
                  go_wp2_with fail
                  go_ret
                  exact ⟨rfl, below_then HB.out hb⟩

theorem door_met (os : Os) (args : Array Value) : laidMetH Tryz.prog Rows.reuseSharedRow.laid ((World.laidAll Tryz.prog os Rows.reuseSharedRow.laid).forCall (fun _ _ => 0) ⟨#[], args, []⟩).memory := by
  rw [MakeChecks.laidMetH_plain _ _ _ (by kernel_rfl)]
  exact laidMet_laidAll _ (by kernel_rfl) (by kernel_rfl)

set_option maxRecDepth 100000 in
theorem lifted (os : Os) (started : os.Started) (H : Type) (enc : TypeId × Value → H) :
    ReturnsInHanded {} Tryz.checked os 6 .any (fun w args => (Rows.reuseSharedSpec.pre enc Tryz.prog Tryz.f6 [] false w args ∧ laidMetH Tryz.prog Rows.reuseSharedRow.laid w) ∧ sizedMet enc Tryz.prog Tryz.f6 (OpenSpec.ofChange Rows.reuseSharedSpec) false w args) (Rows.reuseSharedSpec.post enc Tryz.prog Tryz.f6 false true false false) := by
  refine returns_and_shaped (C := Tryz.checked) (X := fun w _ => laidMetH Tryz.prog Rows.reuseSharedRow.laid w) (fun _ _ _ hh h => h.of_heap hh) own started (by kernel_rfl) Tryz.func6
    (ChangeSpec.witness_shaped (enc := enc) (C := Tryz.checked) (os := os) (X := fun w _ => laidMetH Tryz.prog Rows.reuseSharedRow.laid w) false (World.laidAll Tryz.prog os Rows.reuseSharedRow.laid) #[.agg #[.string ByteArray.empty, .string ByteArray.empty, .int .i64 0, .slice none 0 0, .string ByteArray.empty], .agg #[.int .i64 0, .string ByteArray.empty, .int .i64 0, .slice none 0 0, .string ByteArray.empty], .int .i64 0] 8 rfl (World.shaped_of_ZipB (by kernel_rfl) (by kernel_rfl)) (by kernel_rfl) (by kernel_rfl) (by kernel_rfl) (door_met os _)) ?_
  intro W base args ds gs before hval0 hW hL hsh
  have hval : ∀ (j : Nat) t v, Tryz.f6.params[j]? = some t → args[j]? = some v → Value.okWide Tryz.prog W .any base t v := hval0
  have hW' := hW
  obtain ⟨p, q, hA0, hV, rfl, hfz, hnd⟩ := hW
  have hA : DataW.TrodAll enc Tryz.prog W 0 (fun _ => true) true Tryz.f6.params.toList args.toList ds p := hA0
  rw [Tryz.params6] at hA hval
  obtain ⟨v0, vs0, d0, ds0, p0, q0, hargs, rfl, rfl, h0, r0⟩ := trodAll_cons hA
  obtain ⟨v1, vs1, d1, ds1, p1, q1, rfl, rfl, rfl, h1, r1⟩ := trodAll_cons r0
  obtain ⟨v2, vs2, d2, ds2, p2, q2, rfl, rfl, rfl, h2, r2⟩ := trodAll_cons r1
  obtain ⟨rfl, rfl, rfl⟩ := trodAll_nil r2
  obtain rfl : args = #[v0, v1, v2] := by cases args; simp_all
  obtain ⟨rfl, rfl⟩ := trodVars_none hV
  have k0 := h0
  have lt0 : ∀ x ∈ p0, x.block < W.heap.size := by obtain ⟨m, hm⟩ := k0; exact DataW.trod_lt m _ _ _ hm
  obtain ⟨a0, A0, c0, rfl, w0⟩ := WfQ.of_trod Tryz.underlying24 (by kernel_rfl) (by kernel_rfl) Tryz.underlying9 Tryz.underlying9 Tryz.underlying3 Tryz.underlying22 Tryz.underlying9 Tryz.underlying50 (by kernel_rfl) rfl rfl (by kernel_rfl) (by kernel_rfl) Tryz.underlying9 Tryz.underlying9 (hval 0 24 v0 rfl rfl) h0
  have k1 := h1
  have lt1 : ∀ x ∈ p1, x.block < W.heap.size := by obtain ⟨m, hm⟩ := k1; exact DataW.trod_lt m _ _ _ hm
  obtain ⟨a1, A1, c1, rfl, w1⟩ := WfP.of_trod Tryz.underlying26 (by kernel_rfl) (by kernel_rfl) Tryz.underlying3 Tryz.underlying9 Tryz.underlying3 Tryz.underlying22 Tryz.underlying9 Tryz.underlying50 (by kernel_rfl) rfl rfl (by kernel_rfl) (by kernel_rfl) Tryz.underlying9 Tryz.underlying9 (hval 1 26 v1 rfl rfl) h1
  obtain ⟨a2, rfl, rfl, rfl, w2⟩ := open_int Tryz.underlying3 (hval 2 3 v2 rfl rfl) h2
  clear hA0 hval0
  refine (walk a0 A0 c0 a1 A1 c1 a2 W w0 w1 w2 hL hsh).mono fun e W' ⟨he, bel⟩ => ?_
  subst he
  exact ⟨_, rfl, _, _, _, [], _, [], hW', trodAll_mk1 (shut_bool Tryz.underlying4 _), (trodAll_cons_mk (Below.trod laidOut (by kernel_rfl) (of_decide_eq_true (by kernel_rfl)) k0 bel lt0) (trodAll_cons_mk (Below.trod laidOut (by kernel_rfl) (of_decide_eq_true (by kernel_rfl)) k1 bel lt1) (trodAll_cons_mk (shut_int Tryz.underlying3 w2) trodAll_mk0))), rfl, bel.frame _, fun h => by cases h⟩

theorem over : Rows.reuseSharedRow.holds Tryz.pinned (OpenSpec.ofChange Rows.reuseSharedSpec) :=
  OpenClaim.holds_of_wide 6 Tryz.f6 rfl rfl rfl rfl rfl rfl rfl ⟨rfl, rfl, rfl, rfl, rfl⟩ rfl rfl rfl rfl rfl (by kernel_rfl) Tryz.func6 (by kernel_rfl)
    (of_decide_eq_true (by kernel_rfl)) (by unfold Func.isWrapper; first | (rw [if_pos (by decide +kernel)]; kernel_rfl) | (rw [if_neg (by decide +kernel)]; exact ⟨rfl, rfl⟩))
    (fun os started H enc _ => lifted os started H enc)

theorem said : Rows.ReuseSharedSaid :=
  over

theorem plain (f : FuncId) (fn : Func) (hf : Tryz.pinned.checked.prog.funcNamed "depot/depotlaw18.ReuseShared" = some f) (hfn : Tryz.pinned.checked.prog.funcs[f]? = some fn) :
    false = Tryz.pinned.checked.prog.looks [] ∧ ∀ (j : Nat) t, fn.params[j]? = some t → Tryz.pinned.checked.prog.wantsStandIn t = false := by
  obtain rfl : f = 6 := Option.some.inj ((show Tryz.prog.funcNamed "depot/depotlaw18.ReuseShared" = some 6 by kernel_rfl).symm.trans hf) |>.symm
  obtain rfl : fn = Tryz.f6 := (Option.some.inj (Tryz.func6.symm.trans hfn)).symm
  refine ⟨by kernel_rfl, fun j t ht => ?_⟩
  rw [Tryz.params6] at ht
  · have hm := Array.mem_of_getElem? ht
    simp only [List.mem_toArray, List.mem_cons, List.not_mem_nil, or_false] at hm
    have all : Tryz.pinned.checked.prog.wantsStandIn 3 = false ∧ Tryz.pinned.checked.prog.wantsStandIn 24 = false ∧ Tryz.pinned.checked.prog.wantsStandIn 26 = false := ⟨by kernel_rfl, by kernel_rfl, by kernel_rfl⟩
    rcases hm with rfl | rfl | rfl
    all_goals first | with_reducible exact all.1 | with_reducible exact all.2.1 | with_reducible exact all.2.2

theorem proved : Rows.ReuseSharedCardSaid :=
  Claim7.holds_tied_plain_at .later [] _ _ _ _ said (fun _ h => by cases h) (by kernel_rfl) (fun _ h => by cases h) reuseShared_row_tie rfl ⟨rfl, rfl⟩ (by kernel_rfl) rfl plain (by kernel_rfl)
#print axioms proved
end Go.Proofs.YtnembpklidcgoaaGreatDoor.reuseShared
