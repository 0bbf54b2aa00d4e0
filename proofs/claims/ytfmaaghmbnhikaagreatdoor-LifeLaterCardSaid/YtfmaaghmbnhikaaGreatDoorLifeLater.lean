/-
  The law LifeLater (depotlaw17) returns true for every stored reply and every two times, and leaves what it was given as it was. No condition but that the tables of the program and of the library hold what their initialisers lay.
-/
import Derived.Test.YtfmaaghmbnhikaaGreatDoorRows
import Derived.WalkKit
import Derived.ProofKit
import Derived.OpenShut
import Derived.ShutString
import Derived.ChangeOld
import Derived.Below
import Derived.Test.YtfmaaghmbnhikaaGreatDoorMrgA
import Derived.Test.YtfmaaghmbnhikaaGreatDoorMrgB
import Derived.Test.YtfmaaghmbnhikaaGreatDoorMrgC
import Derived.Test.YtfmaaghmbnhikaaGreatDoorMrgD
import Derived.Test.YtfmaaghmbnhikaaGreatDoorMrgE
import Derived.Test.YtfmaaghmbnhikaaGreatDoorMrgF
import Derived.Test.YtfmaaghmbnhikaaGreatDoorMrgG
import Derived.Test.YtfmaaghmbnhikaaGreatDoorMrgH
import Derived.Test.YtfmaaghmbnhikaaGreatDoorMrgI
import Derived.Test.YtfmaaghmbnhikaaGreatDoorMrgJ
import Derived.Test.YtfmaaghmbnhikaaGreatDoorMrgK
import Derived.Test.YtfmaaghmbnhikaaGreatDoorMrgL
import Derived.Test.YtfmaaghmbnhikaaGreatDoorMrgM
import Derived.Test.YtfmaaghmbnhikaaGreatDoorMrgN
import Derived.Test.YtfmaaghmbnhikaaGreatDoorMrgO
import Derived.Test.YtfmaaghmbnhikaaGreatDoorMrgP
import Derived.Test.YtfmaaghmbnhikaaGreatDoorMrgQ
import Derived.Test.YtfmaaghmbnhikaaGreatDoorMrgR
import Derived.Test.YtfmaaghmbnhikaaGreatDoorMrgS
import Derived.Test.YtfmaaghmbnhikaaGreatDoorMrgT
import Derived.Test.YtfmaaghmbnhikaaGreatDoorMrgU
import Derived.Test.YtfmaaghmbnhikaaGreatDoorMrgV
import Derived.Test.YtfmaaghmbnhikaaGreatDoorMrgW
import Derived.Test.YtfmaaghmbnhikaaGreatDoorMrgX
import Derived.Test.YtfmaaghmbnhikaaGreatDoorMrgY
import Derived.Test.YtfmaaghmbnhikaaGreatDoorMrgZ
import Derived.Test.YtfmaaghmbnhikaaGreatDoorMrgAA
import Derived.Test.YtfmaaghmbnhikaaGreatDoorMrgAB
import Derived.Test.YtfmaaghmbnhikaaGreatDoorMrgAC
import Derived.Test.YtfmaaghmbnhikaaGreatDoorMrgAD
import Derived.Test.YtfmaaghmbnhikaaGreatDoorMrgAE
import Derived.Test.YtfmaaghmbnhikaaGreatDoorMrgAF
import Derived.Test.YtfmaaghmbnhikaaGreatDoorMrgAG
import Derived.Test.YtfmaaghmbnhikaaGreatDoorMrgAH
import Derived.Test.YtfmaaghmbnhikaaGreatDoorMrgAI
import Derived.Test.YtfmaaghmbnhikaaGreatDoorMrgAJ
import Derived.Test.YtfmaaghmbnhikaaGreatDoorMrgAK
import Derived.Test.YtfmaaghmbnhikaaGreatDoorMrgAL
import Derived.Test.YtfmaaghmbnhikaaGreatDoorMrgAM
import Derived.Test.YtfmaaghmbnhikaaGreatDoorMrgAN
import Derived.Test.YtfmaaghmbnhikaaGreatDoorMrgAO
import Derived.Test.YtfmaaghmbnhikaaGreatDoorMrgAP
import Derived.Test.YtfmaaghmbnhikaaGreatDoorMrgAQ
import Derived.Test.YtfmaaghmbnhikaaGreatDoorMrgAR
import Derived.Test.YtfmaaghmbnhikaaGreatDoorMrgAS
import Derived.Test.YtfmaaghmbnhikaaGreatDoorMrgAT
import Derived.Test.YtfmaaghmbnhikaaGreatDoorMrgAU
import Derived.Test.YtfmaaghmbnhikaaGreatDoorMrgAV
import Derived.Test.YtfmaaghmbnhikaaGreatDoorMrgAW
import Derived.Test.YtfmaaghmbnhikaaGreatDoorMrgAX
import Derived.Test.YtfmaaghmbnhikaaGreatDoorMrgAY
import Derived.Test.YtfmaaghmbnhikaaGreatDoorMrgAZ
import Derived.Test.YtfmaaghmbnhikaaGreatDoorMrgBA
import Derived.Deep.RegionHeld3
import Derived.IntWalk
import Derived.Test.YtfmaaghmbnhikaaGreatDoorCards
import Derived.Test.YtfmaaghmbnhikaaGreatDoorTie
import Derived.LaidMore
import Derived.Lib.LaidTab
import Derived.Stop.Joined
import Derived.Lay
namespace Go.Proofs.YtfmaaghmbnhikaaGreatDoor.lifeLater
open Go.ChangeShapes Go.WideShapes Go.ChangeAt Go.RowKit
open Go.ChangeMaps (open_string shut_string)
set_option linter.unusedVariables false

theorem own : ownKnob Tryz.prog.godebug = none := by kernel_rfl
theorem laidOut : laidOutB Tryz.prog = true := by kernel_rfl

set_option maxHeartbeats 8000000 in
set_option maxRecDepth 100000 in
theorem walk (a0 : Stor) (A0 : Option Addr) (c0 : Nat) (B0 : Option Addr) (n0 m0 : Nat) (a1 : Int) (a2 : Int) (w : World) (w0 : WfS w a0 A0 c0) (w1 : (Lit.int .i64 a1).wf = true) (w2 : (Lit.int .i64 a2).wf = true) (hL : laidMetH Tryz.prog Rows.lifeLaterRow.laid w) (hsh : w.ShapedOpen Tryz.prog) :
    Calls Tryz.prog 5 #[.agg (stC a0 A0 c0 B0 n0 m0), .int .i64 a1, .int .i64 a2] w fun e w' => e = .returned (.bool true) ∧ Below w.heap.size w w' := by
  have HT := Lib.hid (lifTabs hL)
  clear hL hsh
  have CX := Lib.hid (fun W (hW : Below w.heap.size w W) => ex17_any W (HT.out.kept hW))
  have HF := Lib.hid (fun W (hW : Below w.heap.size w W) => w0.f.below hW)
  have kf := fun W (hW : Below w.heap.size w W) => r_fewR a0 A0 c0 W (w0.f.below hW)
  have hfy := fun h => fwR_yes (s := a0) h
  have ht := wf_i64 w0.t
  obtain ⟨sc, sr, sv, sf, sb, st⟩ := a0
  unfold stC at *
  unfold srC at *
  simp only at *
  have HB : Hid (Below w.heap.size w (w.alloc (.cells #[.int .i64 sc, .string sr, .int .i64 sv, .slice A0 sf.length c0, .string sb, .int .i64 st, .slice B0 n0 m0] 27))) := (Below.refl _ _).alloc (Nat.le_refl _) _
  have Z0 : Hid ((w.alloc (.cells #[.int .i64 sc, .string sr, .int .i64 sv, .slice A0 sf.length c0, .string sb, .int .i64 st, .slice B0 n0 m0] 27)).heap[w.heap.size]? = some (.cells #[.int .i64 sc, .string sr, .int .i64 sv, .slice A0 sf.length c0, .string sb, .int .i64 st, .slice B0 n0 m0] 27 (0, 0))) := heap_alloc_new w _
  obtain ⟨q0, q1, q2, q3, q4, q5, q6⟩ := cel7 Z0.out
  cases hfw : fwR ⟨sc, sr, sv, sf, sb, st⟩ with
  | false =>
    rw [hfw] at kf
    have KF := Lib.hid kf
    clear w0 hfy hfw kf HF ht
    go_enter Tryz.func5, Tryz.ntmps5
    go_wp2_with fail
    refine (KF.out _ HB.out).mono ?_
    rintro e v11 ⟨rfl, hb⟩
    have Z0 := Lib.hid (zero_still hb Z0.out)
    have HB := Lib.hid (below_then HB.out hb)
    clear hb q0 q1 q2 q3 q4 q5 q6
    obtain ⟨q0, q1, q2, q3, q4, q5, q6⟩ := cel7 Z0.out
    go_wp2_with fail
    refine (CX.out _ HB.out).mono ?_
    rintro e v9 ⟨rfl, hb⟩
    go_wp2_with fail
    go_ret
    exact ⟨rfl, below_then HB.out hb⟩
  | true =>
    rw [hfw] at kf
    have KF := Lib.hid kf
    have hL := (hfy hfw).1
    clear w0 hfy hfw kf
    by_cases g1 : st < 0
    · clear hL HF ht
      go_enter Tryz.func5, Tryz.ntmps5
      go_wp2_with fail
      refine (KF.out _ HB.out).mono ?_
      rintro e v11 ⟨rfl, hb⟩
      have Z0 := Lib.hid (zero_still hb Z0.out)
      have HB := Lib.hid (below_then HB.out hb)
      clear hb q0 q1 q2 q3 q4 q5 q6
      obtain ⟨q0, q1, q2, q3, q4, q5, q6⟩ := cel7 Z0.out
      go_wp2_with fail
      refine (CX.out _ HB.out).mono ?_
      rintro e v9 ⟨rfl, hb⟩
      go_wp2_with fail
      go_ret
      exact ⟨rfl, below_then HB.out hb⟩
    by_cases g2 : a1 < st
    · clear hL HF ht
      go_enter Tryz.func5, Tryz.ntmps5
      go_wp2_with fail
      refine (KF.out _ HB.out).mono ?_
      rintro e v11 ⟨rfl, hb⟩
      have Z0 := Lib.hid (zero_still hb Z0.out)
      have HB := Lib.hid (below_then HB.out hb)
      clear hb q0 q1 q2 q3 q4 q5 q6
      obtain ⟨q0, q1, q2, q3, q4, q5, q6⟩ := cel7 Z0.out
      go_wp2_with fail
      refine (CX.out _ HB.out).mono ?_
      rintro e v9 ⟨rfl, hb⟩
      go_wp2_with fail
      go_ret
      exact ⟨rfl, below_then HB.out hb⟩
    by_cases g3 : a2 < 0
    · clear hL HF ht
      go_enter Tryz.func5, Tryz.ntmps5
      go_wp2_with fail
      refine (KF.out _ HB.out).mono ?_
      rintro e v11 ⟨rfl, hb⟩
      have Z0 := Lib.hid (zero_still hb Z0.out)
      have HB := Lib.hid (below_then HB.out hb)
      clear hb q0 q1 q2 q3 q4 q5 q6
      obtain ⟨q0, q1, q2, q3, q4, q5, q6⟩ := cel7 Z0.out
      go_wp2_with fail
      refine (CX.out _ HB.out).mono ?_
      rintro e v9 ⟨rfl, hb⟩
      go_wp2_with fail
      go_ret
      exact ⟨rfl, below_then HB.out hb⟩
    by_cases g4 : 253402300799 < a1
    · clear hL HF ht
      go_enter Tryz.func5, Tryz.ntmps5
      go_wp2_with fail
      refine (KF.out _ HB.out).mono ?_
      rintro e v11 ⟨rfl, hb⟩
      have Z0 := Lib.hid (zero_still hb Z0.out)
      have HB := Lib.hid (below_then HB.out hb)
      clear hb q0 q1 q2 q3 q4 q5 q6
      obtain ⟨q0, q1, q2, q3, q4, q5, q6⟩ := cel7 Z0.out
      go_wp2_with fail
      refine (CX.out _ HB.out).mono ?_
      rintro e v9 ⟨rfl, hb⟩
      go_wp2_with fail
      go_ret
      exact ⟨rfl, below_then HB.out hb⟩
    by_cases g5 : 253402300799 - a1 < a2
    · clear hL HF ht
      go_enter Tryz.func5, Tryz.ntmps5
      go_wp2_with fail
      refine (KF.out _ HB.out).mono ?_
      rintro e v11 ⟨rfl, hb⟩
      have Z0 := Lib.hid (zero_still hb Z0.out)
      have HB := Lib.hid (below_then HB.out hb)
      clear hb q0 q1 q2 q3 q4 q5 q6
      obtain ⟨q0, q1, q2, q3, q4, q5, q6⟩ := cel7 Z0.out
      go_wp2_with fail
      refine (CX.out _ HB.out).mono ?_
      rintro e v9 ⟨rfl, hb⟩
      go_wp2_with fail
      go_ret
      exact ⟨rfl, below_then HB.out hb⟩
    obtain ⟨X, hX0, hX1, hage⟩ := age_sum sf st (by omega)
    have ha := hage a1 (by omega) (by omega)
    have hb := hage (a1 + a2) (by omega) (by omega)
    obtain ⟨l0, l1⟩ := lifN_bd sf sc st
    have hle := lef_eq sf sc st a1 (by rw [ha]; omega)
    have hfr : ∀ now, frsB sf sc st now = decide (ageN sf st now < lifN sf sc st) := fun _ => rfl
    have hw1 : IntKind.i64.wrap (a1 + a2) = a1 + a2 := by rw [IntKind.wrap_i64]; omega
    obtain ⟨a, hae⟩ : ∃ a, a = min (X + (a1 - st)) 2147483648 := ⟨_, rfl⟩
    rw [← hae] at ha
    have hbe : min (X + (a1 + a2 - st)) 2147483648 = min (a + a2) 2147483648 := by omega
    rw [hbe] at hb
    obtain ⟨lf, hlf⟩ : ∃ lf, lf = lifN sf sc st := ⟨_, rfl⟩
    rw [← hlf] at l0 l1 hle hfr
    rw [ha] at hle
    have ha0 : 0 ≤ a ∧ a ≤ 2147483648 := by omega
    have hk1 : ageN sf st a1 = a := ha
    have hk2 : ageN sf st (a1 + a2) = min (a + a2) 2147483648 := hb
    have hk3 : ∀ d : Int, 0 ≤ d → a1 + d ≤ 253402300799 → ageN sf st (a1 + d) = min (a + d) 2147483648 := fun d h1 h2 => by
      rw [hage (a1 + d) (by omega) h2]
      omega
    have hwa : IntKind.i64.wrap (a + a2) = a + a2 := by rw [IntKind.wrap_i64]; omega
    clear hage hb ha
    have KA1 := fun W (hW : Below w.heap.size w W) => lifA_any ⟨sc, sr, sv, sf, sb, st⟩ A0 c0 B0 n0 m0 (a1) W (HF.out W hW) hL (HT.out.kept hW)
    unfold stC at KA1
    simp only [hk1] at KA1
    have KA1 := Lib.hid KA1
    have KA2 := fun W (hW : Below w.heap.size w W) => lifA_any ⟨sc, sr, sv, sf, sb, st⟩ A0 c0 B0 n0 m0 (a1 + a2) W (HF.out W hW) hL (HT.out.kept hW)
    unfold stC at KA2
    simp only [hk2] at KA2
    have KA2 := Lib.hid KA2
    obtain ⟨b, hbv⟩ : ∃ b, b = min (a + a2) 2147483648 := ⟨_, rfl⟩
    have hbs := hbv.symm
    simp only [hbs] at KA2
    have hbb : ¬ b < 0 := by omega
    have e1 : (b != b) = false := by simp
    have ha1 : ¬ a < 0 := by omega
    have ha2 : ¬ 2147483648 < a := by omega
    have HBS := Lib.hid hbs
    by_cases c1 : a < lf
    · have f1 : frsB sf sc st a1 = true := by rw [hfr, hk1]; exact decide_eq_true c1
      rw [if_pos c1] at hle
      obtain ⟨n, hn⟩ : ∃ n, n = lf - a := ⟨_, rfl⟩
      rw [← hn] at hle
      have hn0 : 0 < n := by omega
      have hnz : ¬ n = 0 := by omega
      have hnm : n ≤ 2147483648 := by omega
      have e2 : (n == 0) = false := by simpa using hnz
      have c3 : a < 2147483648 := by omega
      by_cases c2 : a2 < n
      · have f2 : frsB sf sc st (a1 + a2) = true := by rw [hfr, hk2]; exact decide_eq_true (by omega)
        have hm : min (n - 1) a2 = a2 := by omega
        have hwn : IntKind.i64.wrap (n - 1) = n - 1 := by rw [IntKind.wrap_i64]; omega
        have K1 := fun W (hW : Below w.heap.size w W) => lifF_any ⟨sc, sr, sv, sf, sb, st⟩ A0 c0 B0 n0 m0 (a1) W (HF.out W hW) hL (HT.out.kept hW)
        unfold stC at K1
        simp only [f1] at K1
        have K1 := Lib.hid K1
        have K2 := fun W (hW : Below w.heap.size w W) => lifF_any ⟨sc, sr, sv, sf, sb, st⟩ A0 c0 B0 n0 m0 (a1 + a2) W (HF.out W hW) hL (HT.out.kept hW)
        unfold stC at K2
        simp only [f2] at K2
        have K2 := Lib.hid K2
        have K3 := fun W (hW : Below w.heap.size w W) => lifE_any ⟨sc, sr, sv, sf, sb, st⟩ A0 c0 B0 n0 m0 (a1) W (HF.out W hW) hL (HT.out.kept hW)
        unfold stC at K3
        simp only [hle] at K3
        have K3 := Lib.hid K3
        clear HF hL hk1 hk2 hk3 hfr hlf l0 l1 hle f1 f2 hae hbe hX0 hX1 hn c1 ha0 hbv
        go_enter Tryz.func5, Tryz.ntmps5
        go_wp2_with fail
        refine (KF.out _ HB.out).mono ?_
        rintro e v12 ⟨rfl, hb⟩
        have Z0 := Lib.hid (zero_still hb Z0.out)
        have HB := Lib.hid (below_then HB.out hb)
        clear hb q0 q1 q2 q3 q4 q5 q6
        obtain ⟨q0, q1, q2, q3, q4, q5, q6⟩ := cel7 Z0.out
        go_wp2_with fail
        clear q0 q1 q2 q3 q4 q5 q6
        have HB := Lib.hid HB.out.drew
        have Z0 : Hid (v12.drew.heap[w.heap.size]? = some (.cells #[.int .i64 sc, .string sr, .int .i64 sv, .slice A0 sf.length c0, .string sb, .int .i64 st, .slice B0 n0 m0] 27 (0, 0))) := Z0.out
        go_region_held3 (fun W => W.cell? ⟨w.heap.size, 0, none⟩ = some (.int .i64 sc) ∧ W.cell? ⟨w.heap.size, 1, none⟩ = some (.string sr) ∧ W.cell? ⟨w.heap.size, 2, none⟩ = some (.int .i64 sv) ∧ W.cell? ⟨w.heap.size, 3, none⟩ = some (.slice A0 sf.length c0) ∧ W.cell? ⟨w.heap.size, 4, none⟩ = some (.string sb) ∧ W.cell? ⟨w.heap.size, 5, none⟩ = some (.int .i64 st) ∧ W.cell? ⟨w.heap.size, 6, none⟩ = some (.slice B0 n0 m0)) (exact cel7 Z0.out) (first
          | (go_at_call 9; with_reducible refine (KA1.out _ HB.out).mono ?_; rintro e w5 ⟨rfl, hb⟩; have Z0 := Lib.hid (zero_still hb Z0.out); have HB := Lib.hid (below_then HB.out hb); clear hb)
          | (go_at_call 9; with_reducible refine (KA2.out _ HB.out).mono ?_; rintro e w5 ⟨rfl, hb⟩; have Z0 := Lib.hid (zero_still hb Z0.out); have HB := Lib.hid (below_then HB.out hb); clear hb))
        obtain ⟨q0, q1, q2, q3, q4, q5, q6⟩ := cel7 Z0.out
        go_wp2_with fail
        refine (K2.out _ HB.out).mono ?_
        rintro e v13 ⟨rfl, hb⟩
        have Z0 := Lib.hid (zero_still hb Z0.out)
        have HB := Lib.hid (below_then HB.out hb)
        clear hb q0 q1 q2 q3 q4 q5 q6
        obtain ⟨q0, q1, q2, q3, q4, q5, q6⟩ := cel7 Z0.out
        go_wp2_with fail
        refine (K1.out _ HB.out).mono ?_
        rintro e v14 ⟨rfl, hb⟩
        have Z0 := Lib.hid (zero_still hb Z0.out)
        have HB := Lib.hid (below_then HB.out hb)
        clear hb q0 q1 q2 q3 q4 q5 q6
        obtain ⟨q0, q1, q2, q3, q4, q5, q6⟩ := cel7 Z0.out
        go_wp2_with fail
        refine (K3.out _ HB.out).mono ?_
        rintro e v15 ⟨rfl, hb⟩
        have Z0 := Lib.hid (zero_still hb Z0.out)
        have HB := Lib.hid (below_then HB.out hb)
        clear hb q0 q1 q2 q3 q4 q5 q6
        obtain ⟨q0, q1, q2, q3, q4, q5, q6⟩ := cel7 Z0.out
        go_wp2_with fail
        refine (K1.out _ HB.out).mono ?_
        rintro e v16 ⟨rfl, hb⟩
        have Z0 := Lib.hid (zero_still hb Z0.out)
        have HB := Lib.hid (below_then HB.out hb)
        clear hb q0 q1 q2 q3 q4 q5 q6
        obtain ⟨q0, q1, q2, q3, q4, q5, q6⟩ := cel7 Z0.out
        go_wp2_with fail
        refine (K2.out _ HB.out).mono ?_
        rintro e v17 ⟨rfl, hb⟩
        have Z0 := Lib.hid (zero_still hb Z0.out)
        have HB := Lib.hid (below_then HB.out hb)
        clear hb q0 q1 q2 q3 q4 q5 q6
        obtain ⟨q0, q1, q2, q3, q4, q5, q6⟩ := cel7 Z0.out
        go_wp2_with fail
        refine (CX.out _ HB.out).mono ?_
        rintro e v18 ⟨rfl, hb⟩
        go_wp2_with fail
        go_ret
        exact ⟨rfl, below_then HB.out hb⟩
      · have f2 : frsB sf sc st (a1 + a2) = false := by rw [hfr, hk2]; exact decide_eq_false (by omega)
        have hm : min (n - 1) a2 = n - 1 := by omega
        have hwn : IntKind.i64.wrap (n - 1) = n - 1 := by rw [IntKind.wrap_i64]; omega
        have hwm : IntKind.i64.wrap (a1 + (n - 1)) = a1 + (n - 1) := by rw [IntKind.wrap_i64]; omega
        have hwo : IntKind.i64.wrap (a1 + n) = a1 + n := by rw [IntKind.wrap_i64]; omega
        have f3 : frsB sf sc st (a1 + (n - 1)) = true := by rw [hfr, hk3 (n - 1) (by omega) (by omega)]; exact decide_eq_true (by omega)
        have f4 : frsB sf sc st (a1 + n) = false := by rw [hfr, hk3 n (by omega) (by omega)]; exact decide_eq_false (by omega)
        have K1 := fun W (hW : Below w.heap.size w W) => lifF_any ⟨sc, sr, sv, sf, sb, st⟩ A0 c0 B0 n0 m0 (a1) W (HF.out W hW) hL (HT.out.kept hW)
        unfold stC at K1
        simp only [f1] at K1
        have K1 := Lib.hid K1
        have K2 := fun W (hW : Below w.heap.size w W) => lifF_any ⟨sc, sr, sv, sf, sb, st⟩ A0 c0 B0 n0 m0 (a1 + a2) W (HF.out W hW) hL (HT.out.kept hW)
        unfold stC at K2
        simp only [f2] at K2
        have K2 := Lib.hid K2
        have K3 := fun W (hW : Below w.heap.size w W) => lifE_any ⟨sc, sr, sv, sf, sb, st⟩ A0 c0 B0 n0 m0 (a1) W (HF.out W hW) hL (HT.out.kept hW)
        unfold stC at K3
        simp only [hle] at K3
        have K3 := Lib.hid K3
        have K4 := fun W (hW : Below w.heap.size w W) => lifF_any ⟨sc, sr, sv, sf, sb, st⟩ A0 c0 B0 n0 m0 (a1 + (n - 1)) W (HF.out W hW) hL (HT.out.kept hW)
        unfold stC at K4
        simp only [f3] at K4
        have K4 := Lib.hid K4
        have K5 := fun W (hW : Below w.heap.size w W) => lifF_any ⟨sc, sr, sv, sf, sb, st⟩ A0 c0 B0 n0 m0 (a1 + n) W (HF.out W hW) hL (HT.out.kept hW)
        unfold stC at K5
        simp only [f4] at K5
        have K5 := Lib.hid K5
        clear HF hL hk1 hk2 hk3 hfr hlf l0 l1 hle f1 f2 f3 f4 hae hbe hX0 hX1 hn c1 ha0 hbv
        go_enter Tryz.func5, Tryz.ntmps5
        go_wp2_with fail
        refine (KF.out _ HB.out).mono ?_
        rintro e v19 ⟨rfl, hb⟩
        have Z0 := Lib.hid (zero_still hb Z0.out)
        have HB := Lib.hid (below_then HB.out hb)
        clear hb q0 q1 q2 q3 q4 q5 q6
        obtain ⟨q0, q1, q2, q3, q4, q5, q6⟩ := cel7 Z0.out
        go_wp2_with fail
        clear q0 q1 q2 q3 q4 q5 q6
        have HB := Lib.hid HB.out.drew
        have Z0 : Hid (v19.drew.heap[w.heap.size]? = some (.cells #[.int .i64 sc, .string sr, .int .i64 sv, .slice A0 sf.length c0, .string sb, .int .i64 st, .slice B0 n0 m0] 27 (0, 0))) := Z0.out
        go_region_held3 (fun W => W.cell? ⟨w.heap.size, 0, none⟩ = some (.int .i64 sc) ∧ W.cell? ⟨w.heap.size, 1, none⟩ = some (.string sr) ∧ W.cell? ⟨w.heap.size, 2, none⟩ = some (.int .i64 sv) ∧ W.cell? ⟨w.heap.size, 3, none⟩ = some (.slice A0 sf.length c0) ∧ W.cell? ⟨w.heap.size, 4, none⟩ = some (.string sb) ∧ W.cell? ⟨w.heap.size, 5, none⟩ = some (.int .i64 st) ∧ W.cell? ⟨w.heap.size, 6, none⟩ = some (.slice B0 n0 m0)) (exact cel7 Z0.out) (first
          | (go_at_call 9; with_reducible refine (KA1.out _ HB.out).mono ?_; rintro e w5 ⟨rfl, hb⟩; have Z0 := Lib.hid (zero_still hb Z0.out); have HB := Lib.hid (below_then HB.out hb); clear hb)
          | (go_at_call 9; with_reducible refine (KA2.out _ HB.out).mono ?_; rintro e w5 ⟨rfl, hb⟩; have Z0 := Lib.hid (zero_still hb Z0.out); have HB := Lib.hid (below_then HB.out hb); clear hb))
        obtain ⟨q0, q1, q2, q3, q4, q5, q6⟩ := cel7 Z0.out
        go_wp2_with fail
        refine (K2.out _ HB.out).mono ?_
        rintro e v20 ⟨rfl, hb⟩
        have Z0 := Lib.hid (zero_still hb Z0.out)
        have HB := Lib.hid (below_then HB.out hb)
        clear hb q0 q1 q2 q3 q4 q5 q6
        obtain ⟨q0, q1, q2, q3, q4, q5, q6⟩ := cel7 Z0.out
        go_wp2_with fail
        refine (K3.out _ HB.out).mono ?_
        rintro e v21 ⟨rfl, hb⟩
        have Z0 := Lib.hid (zero_still hb Z0.out)
        have HB := Lib.hid (below_then HB.out hb)
        clear hb q0 q1 q2 q3 q4 q5 q6
        obtain ⟨q0, q1, q2, q3, q4, q5, q6⟩ := cel7 Z0.out
        go_wp2_with fail
        refine (K1.out _ HB.out).mono ?_
        rintro e v22 ⟨rfl, hb⟩
        have Z0 := Lib.hid (zero_still hb Z0.out)
        have HB := Lib.hid (below_then HB.out hb)
        clear hb q0 q1 q2 q3 q4 q5 q6
        obtain ⟨q0, q1, q2, q3, q4, q5, q6⟩ := cel7 Z0.out
        go_wp2_with fail
        refine (K4.out _ HB.out).mono ?_
        rintro e v23 ⟨rfl, hb⟩
        have Z0 := Lib.hid (zero_still hb Z0.out)
        have HB := Lib.hid (below_then HB.out hb)
        clear hb q0 q1 q2 q3 q4 q5 q6
        obtain ⟨q0, q1, q2, q3, q4, q5, q6⟩ := cel7 Z0.out
        go_wp2_with fail
        refine (K5.out _ HB.out).mono ?_
        rintro e v24 ⟨rfl, hb⟩
        have Z0 := Lib.hid (zero_still hb Z0.out)
        have HB := Lib.hid (below_then HB.out hb)
        clear hb q0 q1 q2 q3 q4 q5 q6
        obtain ⟨q0, q1, q2, q3, q4, q5, q6⟩ := cel7 Z0.out
        go_wp2_with fail
        refine (CX.out _ HB.out).mono ?_
        rintro e v25 ⟨rfl, hb⟩
        go_wp2_with fail
        go_ret
        exact ⟨rfl, below_then HB.out hb⟩
    · have f1 : frsB sf sc st a1 = false := by rw [hfr, hk1]; exact decide_eq_false c1
      have f2 : frsB sf sc st (a1 + a2) = false := by rw [hfr, hk2]; exact decide_eq_false (by omega)
      rw [if_neg c1] at hle
      have K1 := fun W (hW : Below w.heap.size w W) => lifF_any ⟨sc, sr, sv, sf, sb, st⟩ A0 c0 B0 n0 m0 (a1) W (HF.out W hW) hL (HT.out.kept hW)
      unfold stC at K1
      simp only [f1] at K1
      have K1 := Lib.hid K1
      have K2 := fun W (hW : Below w.heap.size w W) => lifF_any ⟨sc, sr, sv, sf, sb, st⟩ A0 c0 B0 n0 m0 (a1 + a2) W (HF.out W hW) hL (HT.out.kept hW)
      unfold stC at K2
      simp only [f2] at K2
      have K2 := Lib.hid K2
      have K3 := fun W (hW : Below w.heap.size w W) => lifE_any ⟨sc, sr, sv, sf, sb, st⟩ A0 c0 B0 n0 m0 (a1) W (HF.out W hW) hL (HT.out.kept hW)
      unfold stC at K3
      simp only [hle] at K3
      have K3 := Lib.hid K3
      clear HF hL hk1 hk2 hk3 hfr hlf l0 l1 hle f1 f2 hae hbe hX0 hX1 c1 ha0 hbv
      by_cases c3 : a < 2147483648
      · skip
        go_enter Tryz.func5, Tryz.ntmps5
        go_wp2_with fail
        refine (KF.out _ HB.out).mono ?_
        rintro e v26 ⟨rfl, hb⟩
        have Z0 := Lib.hid (zero_still hb Z0.out)
        have HB := Lib.hid (below_then HB.out hb)
        clear hb q0 q1 q2 q3 q4 q5 q6
        obtain ⟨q0, q1, q2, q3, q4, q5, q6⟩ := cel7 Z0.out
        go_wp2_with fail
        clear q0 q1 q2 q3 q4 q5 q6
        have HB := Lib.hid HB.out.drew
        have Z0 : Hid (v26.drew.heap[w.heap.size]? = some (.cells #[.int .i64 sc, .string sr, .int .i64 sv, .slice A0 sf.length c0, .string sb, .int .i64 st, .slice B0 n0 m0] 27 (0, 0))) := Z0.out
        go_region_held3 (fun W => W.cell? ⟨w.heap.size, 0, none⟩ = some (.int .i64 sc) ∧ W.cell? ⟨w.heap.size, 1, none⟩ = some (.string sr) ∧ W.cell? ⟨w.heap.size, 2, none⟩ = some (.int .i64 sv) ∧ W.cell? ⟨w.heap.size, 3, none⟩ = some (.slice A0 sf.length c0) ∧ W.cell? ⟨w.heap.size, 4, none⟩ = some (.string sb) ∧ W.cell? ⟨w.heap.size, 5, none⟩ = some (.int .i64 st) ∧ W.cell? ⟨w.heap.size, 6, none⟩ = some (.slice B0 n0 m0)) (exact cel7 Z0.out) (first
          | (go_at_call 9; with_reducible refine (KA1.out _ HB.out).mono ?_; rintro e w5 ⟨rfl, hb⟩; have Z0 := Lib.hid (zero_still hb Z0.out); have HB := Lib.hid (below_then HB.out hb); clear hb)
          | (go_at_call 9; with_reducible refine (KA2.out _ HB.out).mono ?_; rintro e w5 ⟨rfl, hb⟩; have Z0 := Lib.hid (zero_still hb Z0.out); have HB := Lib.hid (below_then HB.out hb); clear hb))
        obtain ⟨q0, q1, q2, q3, q4, q5, q6⟩ := cel7 Z0.out
        go_wp2_with fail
        refine (K2.out _ HB.out).mono ?_
        rintro e v27 ⟨rfl, hb⟩
        have Z0 := Lib.hid (zero_still hb Z0.out)
        have HB := Lib.hid (below_then HB.out hb)
        clear hb q0 q1 q2 q3 q4 q5 q6
        obtain ⟨q0, q1, q2, q3, q4, q5, q6⟩ := cel7 Z0.out
        go_wp2_with fail
        refine (K3.out _ HB.out).mono ?_
        rintro e v28 ⟨rfl, hb⟩
        have Z0 := Lib.hid (zero_still hb Z0.out)
        have HB := Lib.hid (below_then HB.out hb)
        clear hb q0 q1 q2 q3 q4 q5 q6
        obtain ⟨q0, q1, q2, q3, q4, q5, q6⟩ := cel7 Z0.out
        go_wp2_with fail
        refine (K1.out _ HB.out).mono ?_
        rintro e v29 ⟨rfl, hb⟩
        have Z0 := Lib.hid (zero_still hb Z0.out)
        have HB := Lib.hid (below_then HB.out hb)
        clear hb q0 q1 q2 q3 q4 q5 q6
        obtain ⟨q0, q1, q2, q3, q4, q5, q6⟩ := cel7 Z0.out
        go_wp2_with fail
        refine (CX.out _ HB.out).mono ?_
        rintro e v30 ⟨rfl, hb⟩
        go_wp2_with fail
        go_ret
        exact ⟨rfl, below_then HB.out hb⟩
      · skip
        go_enter Tryz.func5, Tryz.ntmps5
        go_wp2_with fail
        refine (KF.out _ HB.out).mono ?_
        rintro e v31 ⟨rfl, hb⟩
        have Z0 := Lib.hid (zero_still hb Z0.out)
        have HB := Lib.hid (below_then HB.out hb)
        clear hb q0 q1 q2 q3 q4 q5 q6
        obtain ⟨q0, q1, q2, q3, q4, q5, q6⟩ := cel7 Z0.out
        go_wp2_with fail
        clear q0 q1 q2 q3 q4 q5 q6
        have HB := Lib.hid HB.out.drew
        have Z0 : Hid (v31.drew.heap[w.heap.size]? = some (.cells #[.int .i64 sc, .string sr, .int .i64 sv, .slice A0 sf.length c0, .string sb, .int .i64 st, .slice B0 n0 m0] 27 (0, 0))) := Z0.out
        go_region_held3 (fun W => W.cell? ⟨w.heap.size, 0, none⟩ = some (.int .i64 sc) ∧ W.cell? ⟨w.heap.size, 1, none⟩ = some (.string sr) ∧ W.cell? ⟨w.heap.size, 2, none⟩ = some (.int .i64 sv) ∧ W.cell? ⟨w.heap.size, 3, none⟩ = some (.slice A0 sf.length c0) ∧ W.cell? ⟨w.heap.size, 4, none⟩ = some (.string sb) ∧ W.cell? ⟨w.heap.size, 5, none⟩ = some (.int .i64 st) ∧ W.cell? ⟨w.heap.size, 6, none⟩ = some (.slice B0 n0 m0)) (exact cel7 Z0.out) (first
          | (go_at_call 9; with_reducible refine (KA1.out _ HB.out).mono ?_; rintro e w5 ⟨rfl, hb⟩; have Z0 := Lib.hid (zero_still hb Z0.out); have HB := Lib.hid (below_then HB.out hb); clear hb)
          | (go_at_call 9; with_reducible refine (KA2.out _ HB.out).mono ?_; rintro e w5 ⟨rfl, hb⟩; have Z0 := Lib.hid (zero_still hb Z0.out); have HB := Lib.hid (below_then HB.out hb); clear hb))
        obtain ⟨q0, q1, q2, q3, q4, q5, q6⟩ := cel7 Z0.out
        go_wp2_with fail
        refine (K2.out _ HB.out).mono ?_
        rintro e v32 ⟨rfl, hb⟩
        have Z0 := Lib.hid (zero_still hb Z0.out)
        have HB := Lib.hid (below_then HB.out hb)
        clear hb q0 q1 q2 q3 q4 q5 q6
        obtain ⟨q0, q1, q2, q3, q4, q5, q6⟩ := cel7 Z0.out
        go_wp2_with fail
        refine (K3.out _ HB.out).mono ?_
        rintro e v33 ⟨rfl, hb⟩
        have Z0 := Lib.hid (zero_still hb Z0.out)
        have HB := Lib.hid (below_then HB.out hb)
        clear hb q0 q1 q2 q3 q4 q5 q6
        obtain ⟨q0, q1, q2, q3, q4, q5, q6⟩ := cel7 Z0.out
        go_wp2_with fail
        refine (K1.out _ HB.out).mono ?_
        rintro e v34 ⟨rfl, hb⟩
        have Z0 := Lib.hid (zero_still hb Z0.out)
        have HB := Lib.hid (below_then HB.out hb)
        clear hb q0 q1 q2 q3 q4 q5 q6
        obtain ⟨q0, q1, q2, q3, q4, q5, q6⟩ := cel7 Z0.out
        go_wp2_with fail
        refine (K1.out _ HB.out).mono ?_
        rintro e v35 ⟨rfl, hb⟩
        have Z0 := Lib.hid (zero_still hb Z0.out)
        have HB := Lib.hid (below_then HB.out hb)
        clear hb q0 q1 q2 q3 q4 q5 q6
        obtain ⟨q0, q1, q2, q3, q4, q5, q6⟩ := cel7 Z0.out
        go_wp2_with fail
        refine (CX.out _ HB.out).mono ?_
        rintro e v36 ⟨rfl, hb⟩
        go_wp2_with fail
        go_ret
        exact ⟨rfl, below_then HB.out hb⟩

theorem door_met (os : Os) (args : Array Value) : laidMetH Tryz.prog Rows.lifeLaterRow.laid ((World.laidAll Tryz.prog os Rows.lifeLaterRow.laid).forCall (fun _ _ => 0) ⟨#[], args, []⟩).memory := by
  rw [MakeChecks.laidMetH_plain _ _ _ (by kernel_rfl)]
  exact laidMet_laidAll _ (by kernel_rfl) (by kernel_rfl)

set_option maxRecDepth 100000 in
theorem lifted (os : Os) (started : os.Started) (H : Type) (enc : TypeId × Value → H) :
    ReturnsInHanded {} Tryz.checked os 5 .any (fun w args => (Rows.lifeLaterSpec.pre enc Tryz.prog Tryz.f5 [] false w args ∧ laidMetH Tryz.prog Rows.lifeLaterRow.laid w) ∧ sizedMet enc Tryz.prog Tryz.f5 (OpenSpec.ofChange Rows.lifeLaterSpec) false w args) (Rows.lifeLaterSpec.post enc Tryz.prog Tryz.f5 false true false false) := by
  refine returns_and_shaped (C := Tryz.checked) (X := fun w _ => laidMetH Tryz.prog Rows.lifeLaterRow.laid w) (fun _ _ _ hh h => h.of_heap hh) own started (by kernel_rfl) Tryz.func5
    (ChangeSpec.witness_shaped (enc := enc) (C := Tryz.checked) (os := os) (X := fun w _ => laidMetH Tryz.prog Rows.lifeLaterRow.laid w) false (World.laidAll Tryz.prog os Rows.lifeLaterRow.laid) #[.agg #[.int .i64 0, .string ByteArray.empty, .int .i64 0, .slice none 0 0, .string ByteArray.empty, .int .i64 0, .slice none 0 0], .int .i64 0, .int .i64 0] 8 rfl (World.shaped_of_ZipB (by kernel_rfl) (by kernel_rfl)) (by kernel_rfl) (by kernel_rfl) (by kernel_rfl) (door_met os _)) ?_
  intro W base args ds gs before hval0 hW hL hsh
  have hval : ∀ (j : Nat) t v, Tryz.f5.params[j]? = some t → args[j]? = some v → Value.okWide Tryz.prog W .any base t v := hval0
  have hW' := hW
  obtain ⟨p, q, hA0, hV, rfl, hfz, hnd⟩ := hW
  have hA : DataW.TrodAll enc Tryz.prog W 0 (fun _ => true) true Tryz.f5.params.toList args.toList ds p := hA0
  rw [Tryz.params5] at hA hval
  obtain ⟨v0, vs0, d0, ds0, p0, q0, hargs, rfl, rfl, h0, r0⟩ := trodAll_cons hA
  obtain ⟨v1, vs1, d1, ds1, p1, q1, rfl, rfl, rfl, h1, r1⟩ := trodAll_cons r0
  obtain ⟨v2, vs2, d2, ds2, p2, q2, rfl, rfl, rfl, h2, r2⟩ := trodAll_cons r1
  obtain ⟨rfl, rfl, rfl⟩ := trodAll_nil r2
  obtain rfl : args = #[v0, v1, v2] := by cases args; simp_all
  obtain ⟨rfl, rfl⟩ := trodVars_none hV
  have k0 := h0
  have lt0 : ∀ x ∈ p0, x.block < W.heap.size := by obtain ⟨m, hm⟩ := k0; exact DataW.trod_lt m _ _ _ hm
  obtain ⟨a0, A0, c0, B0, n0, m0, rfl, w0⟩ := WfS.of_trod Tryz.underlying27 (by kernel_rfl) rfl rfl rfl (by kernel_rfl) (by kernel_rfl) (by kernel_rfl) Tryz.underlying24 Tryz.underlying3 Tryz.underlying25 rfl rfl rfl rfl rfl (by kernel_rfl) (by kernel_rfl) (by kernel_rfl) (by kernel_rfl) (by kernel_rfl) Tryz.underlying3 Tryz.underlying9 Tryz.underlying3 Tryz.underlying22 Tryz.underlying9 Tryz.underlying40 (by kernel_rfl) rfl rfl (by kernel_rfl) (by kernel_rfl) Tryz.underlying9 Tryz.underlying9 (hval 0 27 v0 rfl rfl) h0
  obtain ⟨a1, rfl, rfl, rfl, w1⟩ := open_int Tryz.underlying3 (hval 1 3 v1 rfl rfl) h1
  obtain ⟨a2, rfl, rfl, rfl, w2⟩ := open_int Tryz.underlying3 (hval 2 3 v2 rfl rfl) h2
  clear hA0 hval0
  refine (walk a0 A0 c0 B0 n0 m0 a1 a2 W w0 w1 w2 hL hsh).mono fun e W' ⟨he, bel⟩ => ?_
  subst he
  exact ⟨_, rfl, _, _, _, [], _, [], hW', trodAll_mk1 (shut_bool Tryz.underlying4 _), (trodAll_cons_mk (Below.trod laidOut (by kernel_rfl) (of_decide_eq_true (by kernel_rfl)) k0 bel lt0) (trodAll_cons_mk (shut_int Tryz.underlying3 w1) (trodAll_cons_mk (shut_int Tryz.underlying3 w2) trodAll_mk0))), rfl, bel.frame _, fun h => by cases h⟩

theorem over : Rows.lifeLaterRow.holds Tryz.pinned (OpenSpec.ofChange Rows.lifeLaterSpec) :=
  OpenClaim.holds_of_wide 5 Tryz.f5 rfl rfl rfl rfl rfl rfl rfl ⟨rfl, rfl, rfl, rfl, rfl⟩ rfl rfl rfl rfl rfl (by kernel_rfl) Tryz.func5 (by kernel_rfl)
    (of_decide_eq_true (by kernel_rfl)) (by unfold Func.isWrapper; first | (rw [if_pos (by decide +kernel)]; kernel_rfl) | (rw [if_neg (by decide +kernel)]; exact ⟨rfl, rfl⟩))
    (fun os started H enc _ => lifted os started H enc)

theorem said : Rows.LifeLaterSaid :=
  over

theorem plain (f : FuncId) (fn : Func) (hf : Tryz.pinned.checked.prog.funcNamed "depot/depotlaw17.LifeLater" = some f) (hfn : Tryz.pinned.checked.prog.funcs[f]? = some fn) :
    false = Tryz.pinned.checked.prog.looks [] ∧ ∀ (j : Nat) t, fn.params[j]? = some t → Tryz.pinned.checked.prog.wantsStandIn t = false := by
  obtain rfl : f = 5 := Option.some.inj ((show Tryz.prog.funcNamed "depot/depotlaw17.LifeLater" = some 5 by kernel_rfl).symm.trans hf) |>.symm
  obtain rfl : fn = Tryz.f5 := (Option.some.inj (Tryz.func5.symm.trans hfn)).symm
  refine ⟨by kernel_rfl, fun j t ht => ?_⟩
  rw [Tryz.params5] at ht
  · have hm := Array.mem_of_getElem? ht
    simp only [List.mem_toArray, List.mem_cons, List.not_mem_nil, or_false] at hm
    have all : Tryz.pinned.checked.prog.wantsStandIn 3 = false ∧ Tryz.pinned.checked.prog.wantsStandIn 27 = false := ⟨by kernel_rfl, by kernel_rfl⟩
    rcases hm with rfl | rfl | rfl
    all_goals first | with_reducible exact all.1 | with_reducible exact all.2

theorem proved : Rows.LifeLaterCardSaid :=
  Claim7.holds_tied_plain_at .later [] _ _ _ _ said (fun _ h => by cases h) (by kernel_rfl) (fun _ h => by cases h) lifeLater_row_tie rfl ⟨rfl, rfl⟩ (by kernel_rfl) rfl plain (by kernel_rfl)
#print axioms proved
end Go.Proofs.YtfmaaghmbnhikaaGreatDoor.lifeLater
