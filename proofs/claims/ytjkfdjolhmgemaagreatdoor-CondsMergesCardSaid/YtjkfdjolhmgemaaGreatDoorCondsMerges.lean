/-
  The law CondsMerges (depotlaw19) returns true for every stored reply, every reply and every time, and leaves what it was given as it was. No condition.
-/
import Derived.Test.YtjkfdjolhmgemaaGreatDoorRows
import Derived.WalkKit
import Derived.ProofKit
import Derived.OpenShut
import Derived.ShutString
import Derived.ChangeOld
import Derived.Below
import Derived.Test.YtjkfdjolhmgemaaGreatDoorMrgB
import Derived.Test.YtjkfdjolhmgemaaGreatDoorMrgD
import Derived.Test.YtjkfdjolhmgemaaGreatDoorMrgE
import Derived.Test.YtjkfdjolhmgemaaGreatDoorMrgF
import Derived.Test.YtjkfdjolhmgemaaGreatDoorMrgG
import Derived.Test.YtjkfdjolhmgemaaGreatDoorMrgI
import Derived.Test.YtjkfdjolhmgemaaGreatDoorMrgR
import Derived.Test.YtjkfdjolhmgemaaGreatDoorMrgX
import Derived.Test.YtjkfdjolhmgemaaGreatDoorMrgAB
import Derived.Test.YtjkfdjolhmgemaaGreatDoorMrgAC
import Derived.Test.YtjkfdjolhmgemaaGreatDoorMrgAF
import Derived.Test.YtjkfdjolhmgemaaGreatDoorMrgAH
import Derived.Test.YtjkfdjolhmgemaaGreatDoorMrgAI
import Derived.Test.YtjkfdjolhmgemaaGreatDoorMrgAL
import Derived.Test.YtjkfdjolhmgemaaGreatDoorMrgAM
import Derived.Test.YtjkfdjolhmgemaaGreatDoorMrgAN
import Derived.Test.YtjkfdjolhmgemaaGreatDoorMrgAR
import Derived.Test.YtjkfdjolhmgemaaGreatDoorMrgAS
import Derived.Test.YtjkfdjolhmgemaaGreatDoorMrgAT
import Derived.Test.YtjkfdjolhmgemaaGreatDoorMrgAU
import Derived.Test.YtjkfdjolhmgemaaGreatDoorMrgAW
import Derived.Test.YtjkfdjolhmgemaaGreatDoorMrgAX
import Derived.Deep.RegionHeld3
import Derived.Test.YtjkfdjolhmgemaaGreatDoorCards
import Derived.Test.YtjkfdjolhmgemaaGreatDoorTie
import Derived.LaidMore
import Derived.Lib.LaidTab
import Derived.Stop.Joined
import Derived.Lay
set_option linter.unusedSimpArgs false
set_option linter.unusedVariables false
namespace Go.Proofs.YtjkfdjolhmgemaaGreatDoor.condsMerges
open Go.ChangeShapes Go.WideShapes Go.ChangeAt Go.RowKit
open Go.ChangeMaps (open_string shut_string)
set_option linter.unusedVariables false

theorem own : ownKnob Tryz.prog.godebug = none := by kernel_rfl
theorem laidOut : laidOutB Tryz.prog = true := by kernel_rfl

set_option maxHeartbeats 8000000 in
set_option maxRecDepth 100000 in
theorem walk (a0 : Stor) (A0 : Option Addr) (c0 : Nat) (B0 : Option Addr) (n0 m0 : Nat) (K0 : List Pk) (a1 : Rply) (A1 : Option Addr) (c1 : Nat) (a2 : Int) (w : World) (w0 : WfS w a0 A0 c0 ∧ SlK w B0 n0 m0 K0) (w1 : WfP w a1 A1 c1) (w2 : (Lit.int .i64 a2).wf = true) (hL : laidMetH Tryz.prog Rows.condsMergesRow.laid w) (hsh : w.ShapedOpen Tryz.prog) :
    Calls Tryz.prog 4 #[.agg (stC a0 A0 c0 B0 n0 m0), .agg (rpC a1 A1 c1), .int .i64 a2] w fun e w' => e = .returned (.bool true) ∧ Below w.heap.size w w' := by
  have HT := Lib.hid (conTabs hL)
  clear hL hsh
  have hk := w0.2
  replace w0 := w0.1
  have HKL : Hid (K0.length = n0) := hk.len
  have CX := Lib.hid (fun W (hW : Below w.heap.size w W) => ex19_any W (HT.out.kept hW))
  have HFS := Lib.hid (fun W (hW : Below w.heap.size w W) => w0.f.below hW)
  have HFP := Lib.hid (fun W (hW : Below w.heap.size w W) => w1.f.below hW)
  have HFK := Lib.hid (fun W (hW : Below w.heap.size w W) => hk.below hW)
  have ks := fun W (hW : Below w.heap.size w W) => r_fewR a0 A0 c0 W (w0.f.below hW)
  have kp := fun W (hW : Below w.heap.size w W) => r_fewP5 a1 A1 c1 W (w1.f.below hW)
  have kk := fun W (hW : Below w.heap.size w W) => r_few B0 n0 m0 K0 W (hk.below hW)
  have hsy := fun h => fwR_yes (s := a0) h
  have hpy := fun h => fwP5_yes (p := a1) h
  cases hs : fwR a0 with
  | false =>
    rw [hs] at ks
    have KS := Lib.hid ks
    clear ks kp kk hsy hpy HKL hk HFS HFP HFK w0 w1 hs
    obtain ⟨sc, sr, sv, f, sb, st⟩ := a0
    obtain ⟨pc, pr, pv, g, pb⟩ := a1
    unfold stC srC rpC at *
    simp only at *
    obtain ⟨now, hnow⟩ : ∃ q, q = a2 := ⟨_, rfl⟩
    subst hnow
    have HB : Hid (Below w.heap.size w ((w.alloc (.cells #[.int .i64 sc, .string sr, .int .i64 sv, .slice A0 f.length c0, .string sb, .int .i64 st, .slice B0 n0 m0] 37)).alloc (.cells #[.int .i64 pc, .string pr, .int .i64 pv, .slice A1 g.length c1, .string pb] 26))) := ((Below.refl _ _).alloc (Nat.le_refl _) _).alloc (by simp) _
    have ZS : Hid (((w.alloc (.cells #[.int .i64 sc, .string sr, .int .i64 sv, .slice A0 f.length c0, .string sb, .int .i64 st, .slice B0 n0 m0] 37)).alloc (.cells #[.int .i64 pc, .string pr, .int .i64 pv, .slice A1 g.length c1, .string pb] 26)).heap[w.heap.size]? = some (.cells #[.int .i64 sc, .string sr, .int .i64 sv, .slice A0 f.length c0, .string sb, .int .i64 st, .slice B0 n0 m0] 37 (0, 0))) := zero_more (heap_alloc_new w _)
    have zt := heap_alloc_new (w.alloc (.cells #[.int .i64 sc, .string sr, .int .i64 sv, .slice A0 f.length c0, .string sb, .int .i64 st, .slice B0 n0 m0] 37)) (.cells #[.int .i64 pc, .string pr, .int .i64 pv, .slice A1 g.length c1, .string pb] 26)
    rw [show (w.alloc (.cells #[.int .i64 sc, .string sr, .int .i64 sv, .slice A0 f.length c0, .string sb, .int .i64 st, .slice B0 n0 m0] 37)).heap.size = w.heap.size + 1 by simp] at zt
    have ZP := Lib.hid zt
    clear zt
    obtain ⟨q0, q1, q2, q3, q4, q5, q6⟩ := cel7 ZS.out
    obtain ⟨p0, p1, p2, p3, p4⟩ := cel5r ZP.out
    go_enter Tryz.func4, Tryz.ntmps4
    go_wp2_with fail
    refine (KS.out _ HB.out).mono ?_
    rintro e v1 ⟨rfl, hb⟩
    clear q0 q1 q2 q3 q4 q5 q6 p0 p1 p2 p3 p4
    replace ZS := Lib.hid (zero_still hb ZS.out)
    replace ZP := Lib.hid (zero_still hb ZP.out)
    replace HB := Lib.hid (below_then HB.out hb)
    clear hb
    obtain ⟨q0, q1, q2, q3, q4, q5, q6⟩ := cel7 ZS.out
    obtain ⟨p0, p1, p2, p3, p4⟩ := cel5r ZP.out
    go_wp2_with fail
    refine (CX.out _ HB.out).mono ?_
    rintro e v9 ⟨rfl, hb⟩
    go_wp2_with fail
    go_ret
    exact ⟨rfl, below_then HB.out hb⟩
  | true =>
    cases hp : fwP5 a1 with
    | false =>
      rw [hs] at ks
      rw [hp] at kp
      have KS := Lib.hid ks
      have KP := Lib.hid kp
      clear ks kp kk hsy hpy HKL hk HFS HFP HFK w0 w1 hs hp
      obtain ⟨sc, sr, sv, f, sb, st⟩ := a0
      obtain ⟨pc, pr, pv, g, pb⟩ := a1
      unfold stC srC rpC at *
      simp only at *
      obtain ⟨now, hnow⟩ : ∃ q, q = a2 := ⟨_, rfl⟩
      subst hnow
      have HB : Hid (Below w.heap.size w ((w.alloc (.cells #[.int .i64 sc, .string sr, .int .i64 sv, .slice A0 f.length c0, .string sb, .int .i64 st, .slice B0 n0 m0] 37)).alloc (.cells #[.int .i64 pc, .string pr, .int .i64 pv, .slice A1 g.length c1, .string pb] 26))) := ((Below.refl _ _).alloc (Nat.le_refl _) _).alloc (by simp) _
      have ZS : Hid (((w.alloc (.cells #[.int .i64 sc, .string sr, .int .i64 sv, .slice A0 f.length c0, .string sb, .int .i64 st, .slice B0 n0 m0] 37)).alloc (.cells #[.int .i64 pc, .string pr, .int .i64 pv, .slice A1 g.length c1, .string pb] 26)).heap[w.heap.size]? = some (.cells #[.int .i64 sc, .string sr, .int .i64 sv, .slice A0 f.length c0, .string sb, .int .i64 st, .slice B0 n0 m0] 37 (0, 0))) := zero_more (heap_alloc_new w _)
      have zt := heap_alloc_new (w.alloc (.cells #[.int .i64 sc, .string sr, .int .i64 sv, .slice A0 f.length c0, .string sb, .int .i64 st, .slice B0 n0 m0] 37)) (.cells #[.int .i64 pc, .string pr, .int .i64 pv, .slice A1 g.length c1, .string pb] 26)
      rw [show (w.alloc (.cells #[.int .i64 sc, .string sr, .int .i64 sv, .slice A0 f.length c0, .string sb, .int .i64 st, .slice B0 n0 m0] 37)).heap.size = w.heap.size + 1 by simp] at zt
      have ZP := Lib.hid zt
      clear zt
      obtain ⟨q0, q1, q2, q3, q4, q5, q6⟩ := cel7 ZS.out
      obtain ⟨p0, p1, p2, p3, p4⟩ := cel5r ZP.out
      go_enter Tryz.func4, Tryz.ntmps4
      go_wp2_with fail
      refine (KS.out _ HB.out).mono ?_
      rintro e v2 ⟨rfl, hb⟩
      clear q0 q1 q2 q3 q4 q5 q6 p0 p1 p2 p3 p4
      replace ZS := Lib.hid (zero_still hb ZS.out)
      replace ZP := Lib.hid (zero_still hb ZP.out)
      replace HB := Lib.hid (below_then HB.out hb)
      clear hb
      obtain ⟨q0, q1, q2, q3, q4, q5, q6⟩ := cel7 ZS.out
      obtain ⟨p0, p1, p2, p3, p4⟩ := cel5r ZP.out
      go_wp2_with fail
      refine (KP.out _ HB.out).mono ?_
      rintro e v3 ⟨rfl, hb⟩
      clear q0 q1 q2 q3 q4 q5 q6 p0 p1 p2 p3 p4
      replace ZS := Lib.hid (zero_still hb ZS.out)
      replace ZP := Lib.hid (zero_still hb ZP.out)
      replace HB := Lib.hid (below_then HB.out hb)
      clear hb
      obtain ⟨q0, q1, q2, q3, q4, q5, q6⟩ := cel7 ZS.out
      obtain ⟨p0, p1, p2, p3, p4⟩ := cel5r ZP.out
      go_wp2_with fail
      refine (CX.out _ HB.out).mono ?_
      rintro e v9 ⟨rfl, hb⟩
      go_wp2_with fail
      go_ret
      exact ⟨rfl, below_then HB.out hb⟩
    | true =>
      cases hq : fewK K0 with
      | false =>
        rw [hs] at ks
        rw [hp] at kp
        rw [hq] at kk
        have KS := Lib.hid ks
        have KP := Lib.hid kp
        have KK := Lib.hid kk
        clear ks kp kk hsy hpy HKL hk HFS HFP HFK w0 w1 hs hp hq
        obtain ⟨sc, sr, sv, f, sb, st⟩ := a0
        obtain ⟨pc, pr, pv, g, pb⟩ := a1
        unfold stC srC rpC at *
        simp only at *
        obtain ⟨now, hnow⟩ : ∃ q, q = a2 := ⟨_, rfl⟩
        subst hnow
        have HB : Hid (Below w.heap.size w ((w.alloc (.cells #[.int .i64 sc, .string sr, .int .i64 sv, .slice A0 f.length c0, .string sb, .int .i64 st, .slice B0 n0 m0] 37)).alloc (.cells #[.int .i64 pc, .string pr, .int .i64 pv, .slice A1 g.length c1, .string pb] 26))) := ((Below.refl _ _).alloc (Nat.le_refl _) _).alloc (by simp) _
        have ZS : Hid (((w.alloc (.cells #[.int .i64 sc, .string sr, .int .i64 sv, .slice A0 f.length c0, .string sb, .int .i64 st, .slice B0 n0 m0] 37)).alloc (.cells #[.int .i64 pc, .string pr, .int .i64 pv, .slice A1 g.length c1, .string pb] 26)).heap[w.heap.size]? = some (.cells #[.int .i64 sc, .string sr, .int .i64 sv, .slice A0 f.length c0, .string sb, .int .i64 st, .slice B0 n0 m0] 37 (0, 0))) := zero_more (heap_alloc_new w _)
        have zt := heap_alloc_new (w.alloc (.cells #[.int .i64 sc, .string sr, .int .i64 sv, .slice A0 f.length c0, .string sb, .int .i64 st, .slice B0 n0 m0] 37)) (.cells #[.int .i64 pc, .string pr, .int .i64 pv, .slice A1 g.length c1, .string pb] 26)
        rw [show (w.alloc (.cells #[.int .i64 sc, .string sr, .int .i64 sv, .slice A0 f.length c0, .string sb, .int .i64 st, .slice B0 n0 m0] 37)).heap.size = w.heap.size + 1 by simp] at zt
        have ZP := Lib.hid zt
        clear zt
        obtain ⟨q0, q1, q2, q3, q4, q5, q6⟩ := cel7 ZS.out
        obtain ⟨p0, p1, p2, p3, p4⟩ := cel5r ZP.out
        go_enter Tryz.func4, Tryz.ntmps4
        go_wp2_with fail
        refine (KS.out _ HB.out).mono ?_
        rintro e v4 ⟨rfl, hb⟩
        clear q0 q1 q2 q3 q4 q5 q6 p0 p1 p2 p3 p4
        replace ZS := Lib.hid (zero_still hb ZS.out)
        replace ZP := Lib.hid (zero_still hb ZP.out)
        replace HB := Lib.hid (below_then HB.out hb)
        clear hb
        obtain ⟨q0, q1, q2, q3, q4, q5, q6⟩ := cel7 ZS.out
        obtain ⟨p0, p1, p2, p3, p4⟩ := cel5r ZP.out
        go_wp2_with fail
        refine (KP.out _ HB.out).mono ?_
        rintro e v5 ⟨rfl, hb⟩
        clear q0 q1 q2 q3 q4 q5 q6 p0 p1 p2 p3 p4
        replace ZS := Lib.hid (zero_still hb ZS.out)
        replace ZP := Lib.hid (zero_still hb ZP.out)
        replace HB := Lib.hid (below_then HB.out hb)
        clear hb
        obtain ⟨q0, q1, q2, q3, q4, q5, q6⟩ := cel7 ZS.out
        obtain ⟨p0, p1, p2, p3, p4⟩ := cel5r ZP.out
        go_wp2_with fail
        refine (KK.out _ HB.out).mono ?_
        rintro e v6 ⟨rfl, hb⟩
        clear q0 q1 q2 q3 q4 q5 q6 p0 p1 p2 p3 p4
        replace ZS := Lib.hid (zero_still hb ZS.out)
        replace ZP := Lib.hid (zero_still hb ZP.out)
        replace HB := Lib.hid (below_then HB.out hb)
        clear hb
        obtain ⟨q0, q1, q2, q3, q4, q5, q6⟩ := cel7 ZS.out
        obtain ⟨p0, p1, p2, p3, p4⟩ := cel5r ZP.out
        go_wp2_with fail
        refine (CX.out _ HB.out).mono ?_
        rintro e v9 ⟨rfl, hb⟩
        go_wp2_with fail
        go_ret
        exact ⟨rfl, below_then HB.out hb⟩
      | true =>
        rw [hs] at ks
        rw [hp] at kp
        rw [hq] at kk
        have KS := Lib.hid ks
        have KP := Lib.hid kp
        have KK := Lib.hid kk
        have hS := (hsy hs).1
        have hP := (hpy hp).1
        have hq0 := hq
        clear ks kp kk hsy hpy hs hp hq w0 w1
        have hml : (mrgF a0.f a1.f).length ≤ 100000000 := by have := mrg_len a0.f a1.f; have := hS.n; have := hP.n; omega
        have K1 := Lib.hid (fun W now (hW : Below w.heap.size w W) => conM_any a0 A0 c0 B0 n0 m0 a1 A1 c1 now K0 W (HFS.out W hW) hS (HFK.out W hW) (HFP.out W hW) hP (by have := fewK_len hq0; have := HKL.out; omega) (HT.out.kept hW))
        have K2 := Lib.hid (fun W now (hW : Below w.heap.size w W) => r_mrg a0 A0 c0 B0 n0 m0 a1 A1 c1 now W (HFS.out W hW) hS (HFP.out W hW) hP)
        have K3 := Lib.hid (fun W (hW : Below w.heap.size w W) => conL_any ⟨a0.c, a0.r, a0.v, a0.f, a0.b⟩ A0 c0 a1 A1 c1 W (HFS.out W hW) hS (HFP.out W hW) hP)
        have K4 := Lib.hid (fun W (hW : Below w.heap.size w W) => r_sel ⟨a0.c, a0.r, a0.v, a0.f, a0.b⟩ A0 c0 a1 A1 c1 W (HFS.out W hW) hS (HFP.out W hW) hP)
        generalize mrgF a0.f a1.f = FM at *
        obtain ⟨x1, hx1⟩ : ∃ q, selB a0.f a1.f = q := ⟨_, rfl⟩
        have hxx : (x1 == x1) = true := by simp
        have K7 := Lib.hid (fun W A B c d h h' => r_sameP ⟨a0.c, a0.r, a0.v, FM, a0.b⟩ A B c d W h h' hml)
        have hkn : n0 ≤ 100000000 ∨ True := .inr trivial
        clear hkn
        have K8 := Lib.hid (fun W D k (h : SlK W D n0 k K0) (h' : SlK W B0 n0 m0 K0) => r_pkSame D B0 n0 k n0 m0 K0 K0 W h h' (by have := fewK_len hq0; have := HKL.out; omega))
        have HKP : Hid (SlK w B0 n0 m0 K0) := hk
        have HK0 := HKP
        simp only [pksB_refl] at K8
        simp only [hx1] at K3 K4
        clear HFS HFP HFK hS hP hml hx1 hk
        obtain ⟨sc, sr, sv, f, sb, st⟩ := a0
        obtain ⟨pc, pr, pv, g, pb⟩ := a1
        unfold stC srC rpC at *
        simp only at *
        obtain ⟨now, hnow⟩ : ∃ q, q = a2 := ⟨_, rfl⟩
        subst hnow
        have HB : Hid (Below w.heap.size w ((w.alloc (.cells #[.int .i64 sc, .string sr, .int .i64 sv, .slice A0 f.length c0, .string sb, .int .i64 st, .slice B0 n0 m0] 37)).alloc (.cells #[.int .i64 pc, .string pr, .int .i64 pv, .slice A1 g.length c1, .string pb] 26))) := ((Below.refl _ _).alloc (Nat.le_refl _) _).alloc (by simp) _
        have ZS : Hid (((w.alloc (.cells #[.int .i64 sc, .string sr, .int .i64 sv, .slice A0 f.length c0, .string sb, .int .i64 st, .slice B0 n0 m0] 37)).alloc (.cells #[.int .i64 pc, .string pr, .int .i64 pv, .slice A1 g.length c1, .string pb] 26)).heap[w.heap.size]? = some (.cells #[.int .i64 sc, .string sr, .int .i64 sv, .slice A0 f.length c0, .string sb, .int .i64 st, .slice B0 n0 m0] 37 (0, 0))) := zero_more (heap_alloc_new w _)
        have zt := heap_alloc_new (w.alloc (.cells #[.int .i64 sc, .string sr, .int .i64 sv, .slice A0 f.length c0, .string sb, .int .i64 st, .slice B0 n0 m0] 37)) (.cells #[.int .i64 pc, .string pr, .int .i64 pv, .slice A1 g.length c1, .string pb] 26)
        rw [show (w.alloc (.cells #[.int .i64 sc, .string sr, .int .i64 sv, .slice A0 f.length c0, .string sb, .int .i64 st, .slice B0 n0 m0] 37)).heap.size = w.heap.size + 1 by simp] at zt
        have ZP := Lib.hid zt
        clear zt
        obtain ⟨q0, q1, q2, q3, q4, q5, q6⟩ := cel7 ZS.out
        obtain ⟨p0, p1, p2, p3, p4⟩ := cel5r ZP.out
        go_enter Tryz.func4, Tryz.ntmps4
        go_wp2_with fail
        refine (KS.out _ HB.out).mono ?_
        rintro e v7 ⟨rfl, hb⟩
        clear q0 q1 q2 q3 q4 q5 q6 p0 p1 p2 p3 p4
        replace ZS := Lib.hid (zero_still hb ZS.out)
        replace ZP := Lib.hid (zero_still hb ZP.out)
        replace HB := Lib.hid (below_then HB.out hb)
        clear hb
        obtain ⟨q0, q1, q2, q3, q4, q5, q6⟩ := cel7 ZS.out
        obtain ⟨p0, p1, p2, p3, p4⟩ := cel5r ZP.out
        go_wp2_with fail
        refine (KP.out _ HB.out).mono ?_
        rintro e v8 ⟨rfl, hb⟩
        clear q0 q1 q2 q3 q4 q5 q6 p0 p1 p2 p3 p4
        replace ZS := Lib.hid (zero_still hb ZS.out)
        replace ZP := Lib.hid (zero_still hb ZP.out)
        replace HB := Lib.hid (below_then HB.out hb)
        clear hb
        obtain ⟨q0, q1, q2, q3, q4, q5, q6⟩ := cel7 ZS.out
        obtain ⟨p0, p1, p2, p3, p4⟩ := cel5r ZP.out
        go_wp2_with fail
        refine (KK.out _ HB.out).mono ?_
        rintro e v9 ⟨rfl, hb⟩
        clear q0 q1 q2 q3 q4 q5 q6 p0 p1 p2 p3 p4
        replace ZS := Lib.hid (zero_still hb ZS.out)
        replace ZP := Lib.hid (zero_still hb ZP.out)
        replace HB := Lib.hid (below_then HB.out hb)
        clear hb
        obtain ⟨q0, q1, q2, q3, q4, q5, q6⟩ := cel7 ZS.out
        obtain ⟨p0, p1, p2, p3, p4⟩ := cel5r ZP.out
        go_upto_region 3 with fail
        clear q0 q1 q2 q3 q4 q5 q6 p0 p1 p2 p3 p4
        obtain ⟨W0, hW0⟩ : ∃ W, W = v9 := ⟨_, rfl⟩
        rw [← hW0] at HB ZS ZP ⊢
        clear hW0
        replace HKP := Lib.hid (HKP.out.below HB.out)
        go_cut [7, 8] (fun x y wx => ∃ R1 R2 X1 e1 D1 q1 k1 X2 e2, x = .pointer (some ⟨R1, 0, none⟩) ∧ y = .pointer (some ⟨R2, 0, none⟩) ∧ q1 = n0 ∧ Hid (wx.heap[R1]? = some (.cells #[.int .i64 sc, .string sr, .int .i64 sv, .slice X1 FM.length e1, .string sb, .int .i64 now, .slice D1 q1 k1] 37 (0, 0))) ∧ Hid (wx.heap[R2]? = some (.cells #[.int .i64 sc, .string sr, .int .i64 sv, .slice X2 FM.length e2, .string sb, .int .i64 now, .slice B0 n0 m0] 37 (0, 0))) ∧ Hid (wx.heap[w.heap.size]? = some (.cells #[.int .i64 sc, .string sr, .int .i64 sv, .slice A0 f.length c0, .string sb, .int .i64 st, .slice B0 n0 m0] 37 (0, 0))) ∧ Hid (wx.heap[w.heap.size + 1]? = some (.cells #[.int .i64 pc, .string pr, .int .i64 pv, .slice A1 g.length c1, .string pb] 26 (0, 0))) ∧ Hid (SlF wx X1 FM.length e1 FM) ∧ Hid (SlF wx X2 FM.length e2 FM) ∧ Hid (SlK wx D1 q1 k1 K0) ∧ Hid (SlK wx B0 n0 m0 K0) ∧ Hid (Below w.heap.size w wx))
        case first =>
          go_wp2_with fail
          obtain ⟨u1, hu1⟩ : ∃ W, W0.drew = W := ⟨_, rfl⟩
          replace ZS : Hid (u1.heap[w.heap.size]? = some (.cells #[.int .i64 sc, .string sr, .int .i64 sv, .slice A0 f.length c0, .string sb, .int .i64 st, .slice B0 n0 m0] 37 (0, 0))) := (by show _ = _; rw [← hu1]; exact ZS.out)
          replace ZP : Hid (u1.heap[w.heap.size + 1]? = some (.cells #[.int .i64 pc, .string pr, .int .i64 pv, .slice A1 g.length c1, .string pb] 26 (0, 0))) := (by show _ = _; rw [← hu1]; exact ZP.out)
          replace HB : Hid (Below w.heap.size w u1) := (by show Below _ _ _; rw [← hu1]; exact HB.out.drew)
          replace HKP := Lib.hid HKP.out.drew
          rw [hu1] at HKP
          refine wp_region_held_drew (S := fun W => W.cell? ⟨w.heap.size, 0, none⟩ = some (.int .i64 sc) ∧ W.cell? ⟨w.heap.size, 1, none⟩ = some (.string sr) ∧ W.cell? ⟨w.heap.size, 2, none⟩ = some (.int .i64 sv) ∧ W.cell? ⟨w.heap.size, 3, none⟩ = some (.slice A0 f.length c0) ∧ W.cell? ⟨w.heap.size, 4, none⟩ = some (.string sb) ∧ W.cell? ⟨w.heap.size, 5, none⟩ = some (.int .i64 st) ∧ W.cell? ⟨w.heap.size, 6, none⟩ = some (.slice B0 n0 m0) ∧ W.cell? ⟨w.heap.size + 1, 0, none⟩ = some (.int .i64 pc) ∧ W.cell? ⟨w.heap.size + 1, 1, none⟩ = some (.string pr) ∧ W.cell? ⟨w.heap.size + 1, 2, none⟩ = some (.int .i64 pv) ∧ W.cell? ⟨w.heap.size + 1, 3, none⟩ = some (.slice A1 g.length c1) ∧ W.cell? ⟨w.heap.size + 1, 4, none⟩ = some (.string pb)) (by kernel_rfl) (by rw [hu1]; exact ⟨(cel7 ZS.out).1, (cel7 ZS.out).2.1, (cel7 ZS.out).2.2.1, (cel7 ZS.out).2.2.2.1, (cel7 ZS.out).2.2.2.2.1, (cel7 ZS.out).2.2.2.2.2.1, (cel7 ZS.out).2.2.2.2.2.2, (cel5r ZP.out).1, (cel5r ZP.out).2.1, (cel5r ZP.out).2.2.1, (cel5r ZP.out).2.2.2.1, (cel5r ZP.out).2.2.2.2⟩) (fun hHeld => ?_)
          rw [hu1] at hHeld ⊢
          clear hu1
          refine takeY (i := 0) (v := ?_) rfl rfl (by kernel_rfl) (by kernel_rfl) (by kernel_rfl) (by rfl) (fun _ _ _ h => h) ?y1 (by assumption) ?r1
          case y1 => (intro w hSw; (try dsimp only at hSw); go_simp; try with_reducible rfl)
          try simp only [Act.put, List.setIfInBounds_toArray, List.set_cons_zero, List.set_cons_succ]
          refine takeY (i := 1) (v := ?_) rfl rfl (by kernel_rfl) (by kernel_rfl) (by kernel_rfl) (by rfl) (fun _ _ _ h => h) ?y2 (by assumption) ?r2
          case y2 => (intro w hSw; (try dsimp only at hSw); go_simp; try with_reducible rfl)
          try simp only [Act.put, List.setIfInBounds_toArray, List.set_cons_zero, List.set_cons_succ]
          refine takeY (i := 2) (v := ?_) rfl rfl (by kernel_rfl) (by kernel_rfl) (by kernel_rfl) (by rfl) (fun _ _ _ h => h) ?y3 (by assumption) ?r3
          case y3 => (intro w hSw; (try dsimp only at hSw); go_simp; try with_reducible rfl)
          try simp only [Act.put, List.setIfInBounds_toArray, List.set_cons_zero, List.set_cons_succ]
          refine takeY (i := 4) (v := ?_) rfl rfl (by kernel_rfl) (by kernel_rfl) (by kernel_rfl) (by rfl) (fun _ _ _ h => h) ?y4 (by assumption) ?r4
          case y4 => (intro w hSw; (try dsimp only at hSw); go_simp; try with_reducible rfl)
          try simp only [Act.put, List.setIfInBounds_toArray, List.set_cons_zero, List.set_cons_succ]
          refine takeY (i := 5) (v := ?_) rfl rfl (by kernel_rfl) (by kernel_rfl) (by kernel_rfl) (by rfl) (fun _ _ _ h => h) ?y5 (by assumption) ?r5
          case y5 => (intro w hSw; (try dsimp only at hSw); go_simp; try with_reducible rfl)
          try simp only [Act.put, List.setIfInBounds_toArray, List.set_cons_zero, List.set_cons_succ]
          refine takeY (i := 6) (v := ?_) rfl rfl (by kernel_rfl) (by kernel_rfl) (by kernel_rfl) (by rfl) (fun _ _ _ h => h) ?y6 (by assumption) ?r6
          case y6 => (intro w hSw; (try dsimp only at hSw); go_simp; try with_reducible rfl)
          try simp only [Act.put, List.setIfInBounds_toArray, List.set_cons_zero, List.set_cons_succ]
          refine wpAnyH_ready (rs := [3, 8, 9]) (by kernel_rfl) (by simp) (AllReadyH.cons rfl (fun K hK => ?_) (AllReadyH.cons rfl (fun K hK => ?_) (AllReadyH.cons rfl (fun K hK => ?_) AllReadyH.nil)))
          · go_simp
            go_at_call 19
            refine (K1.out _ _ HB.out).mono ?_
            rintro e u2 ⟨X1, e1, D1, q1, k1, rfl, hSA, fSA, hKA, oKA, hb⟩
            replace ZS := Lib.hid (zero_still hb ZS.out)
            replace ZP := Lib.hid (zero_still hb ZP.out)
            replace HKP := Lib.hid (HKP.out.below hb)
            have SA := Lib.hid hSA
            clear hSA
            have KA := Lib.hid hKA
            clear hKA
            replace HB := Lib.hid (below_then HB.out hb)
            clear hb
            try go_wp2_with fail
            refine hK.out _ _ (⟨(cel7 ZS.out).1, (cel7 ZS.out).2.1, (cel7 ZS.out).2.2.1, (cel7 ZS.out).2.2.2.1, (cel7 ZS.out).2.2.2.2.1, (cel7 ZS.out).2.2.2.2.2.1, (cel7 ZS.out).2.2.2.2.2.2, (cel5r ZP.out).1, (cel5r ZP.out).2.1, (cel5r ZP.out).2.2.1, (cel5r ZP.out).2.2.2.1, (cel5r ZP.out).2.2.2.2⟩) (fun hHeld => ?_)
            clear hK
            try simp only [Act.put, List.setIfInBounds_toArray, List.set_cons_zero, List.set_cons_succ]
            refine wpAnyH_ready (rs := [7, 8, 9]) (by kernel_rfl) (by simp) (AllReadyH.cons rfl (fun K hK => ?_) (AllReadyH.cons rfl (fun K hK => ?_) (AllReadyH.cons rfl (fun K hK => ?_) AllReadyH.nil)))
            · go_simp
              go_at_call 20
              refine (K2.out _ _ HB.out).mono ?_
              rintro e u3 ⟨X2, e2, rfl, hSB, fSB, hb⟩
              replace ZS := Lib.hid (zero_still hb ZS.out)
              replace ZP := Lib.hid (zero_still hb ZP.out)
              replace HKP := Lib.hid (HKP.out.below hb)
              replace SA := Lib.hid (SA.out.below hb)
              replace KA := Lib.hid (KA.out.below hb)
              have SB := Lib.hid hSB
              clear hSB
              replace HB := Lib.hid (below_then HB.out hb)
              clear hb
              try go_wp2_with fail
              refine hK.out _ _ (⟨(cel7 ZS.out).1, (cel7 ZS.out).2.1, (cel7 ZS.out).2.2.1, (cel7 ZS.out).2.2.2.1, (cel7 ZS.out).2.2.2.2.1, (cel7 ZS.out).2.2.2.2.2.1, (cel7 ZS.out).2.2.2.2.2.2, (cel5r ZP.out).1, (cel5r ZP.out).2.1, (cel5r ZP.out).2.2.1, (cel5r ZP.out).2.2.2.1, (cel5r ZP.out).2.2.2.2⟩) (fun hHeld => ?_)
              clear hK
              try simp only [Act.put, List.setIfInBounds_toArray, List.set_cons_zero, List.set_cons_succ]
              refine wpAnyH_ready (rs := [8, 9]) (by kernel_rfl) (by simp) (AllReadyH.cons rfl (fun K hK => ?_) (AllReadyH.cons rfl (fun K hK => ?_) AllReadyH.nil))
              · go_simp
                obtain ⟨u4, hu4⟩ : ∃ W, u3.alloc (.cells #[.int .i64 0, .string ⟨#[]⟩, .int .i64 0, .slice none 0 0, .string ⟨#[]⟩, .int .i64 0, .slice none 0 0] 37) = W := ⟨_, rfl⟩
                obtain ⟨ga, hga⟩ : ∃ g, u3.heap.size = g := ⟨_, rfl⟩
                rw [hu4, hga]
                have nZSga : w.heap.size < ga := (by rw [← hga]; exact (Array.getElem?_eq_some_iff.1 ZS.out).1)
                have nZPga : w.heap.size + 1 < ga := (by rw [← hga]; exact (Array.getElem?_eq_some_iff.1 ZP.out).1)
                replace ZS : Hid (u4.heap[w.heap.size]? = some (.cells #[.int .i64 sc, .string sr, .int .i64 sv, .slice A0 f.length c0, .string sb, .int .i64 st, .slice B0 n0 m0] 37 (0, 0))) := (by show _ = _; rw [← hu4]; exact zero_more ZS.out)
                replace ZP : Hid (u4.heap[w.heap.size + 1]? = some (.cells #[.int .i64 pc, .string pr, .int .i64 pv, .slice A1 g.length c1, .string pb] 26 (0, 0))) := (by show _ = _; rw [← hu4]; exact zero_more ZP.out)
                have Tga : Hid (u4.heap[ga]? = some (.cells #[.int .i64 0, .string ⟨#[]⟩, .int .i64 0, .slice none 0 0, .string ⟨#[]⟩, .int .i64 0, .slice none 0 0] 37 (0, 0))) := (by show _ = _; rw [← hu4, ← hga]; exact heap_alloc_new u3 _)
                have dHKPga : DisA B0 n0 ga := HKP.out.dis (by rw [← hga]; exact Nat.le_refl _)
                replace HKP := Lib.hid (HKP.out.alloc (.cells #[.int .i64 0, .string ⟨#[]⟩, .int .i64 0, .slice none 0 0, .string ⟨#[]⟩, .int .i64 0, .slice none 0 0] 37))
                rw [hu4] at HKP
                have dSAga : DisA X1 FM.length ga := SA.out.dis (by rw [← hga]; exact Nat.le_refl _)
                replace SA := Lib.hid (SA.out.alloc (.cells #[.int .i64 0, .string ⟨#[]⟩, .int .i64 0, .slice none 0 0, .string ⟨#[]⟩, .int .i64 0, .slice none 0 0] 37))
                rw [hu4] at SA
                have dKAga : DisA D1 q1 ga := KA.out.dis (by rw [← hga]; exact Nat.le_refl _)
                replace KA := Lib.hid (KA.out.alloc (.cells #[.int .i64 0, .string ⟨#[]⟩, .int .i64 0, .slice none 0 0, .string ⟨#[]⟩, .int .i64 0, .slice none 0 0] 37))
                rw [hu4] at KA
                have dSBga : DisA X2 FM.length ga := SB.out.dis (by rw [← hga]; exact Nat.le_refl _)
                replace SB := Lib.hid (SB.out.alloc (.cells #[.int .i64 0, .string ⟨#[]⟩, .int .i64 0, .slice none 0 0, .string ⟨#[]⟩, .int .i64 0, .slice none 0 0] 37))
                rw [hu4] at SB
                have nbga : w.heap.size ≤ ga := (by rw [← hga]; exact HB.out.size)
                replace HB : Hid (Below w.heap.size w u4) := (by show Below _ _ _; rw [← hu4]; exact HB.out.alloc HB.out.size _)
                clear hu4 hga
                refine hK.out _ _ (⟨(cel7 ZS.out).1, (cel7 ZS.out).2.1, (cel7 ZS.out).2.2.1, (cel7 ZS.out).2.2.2.1, (cel7 ZS.out).2.2.2.2.1, (cel7 ZS.out).2.2.2.2.2.1, (cel7 ZS.out).2.2.2.2.2.2, (cel5r ZP.out).1, (cel5r ZP.out).2.1, (cel5r ZP.out).2.2.1, (cel5r ZP.out).2.2.2.1, (cel5r ZP.out).2.2.2.2⟩) (fun hHeld => ?_)
                clear hK
                try simp only [Act.put, List.setIfInBounds_toArray, List.set_cons_zero, List.set_cons_succ]
                refine wpAnyH_ready (rs := [9]) (by kernel_rfl) (by simp) (AllReadyH.cons rfl (fun K hK => ?_) AllReadyH.nil)
                go_simp
                obtain ⟨u5, hu5⟩ : ∃ W, u4.alloc (.cells #[.int .i64 0, .string ⟨#[]⟩, .int .i64 0, .slice none 0 0, .string ⟨#[]⟩, .int .i64 0, .slice none 0 0] 37) = W := ⟨_, rfl⟩
                obtain ⟨gb, hgb⟩ : ∃ g, u4.heap.size = g := ⟨_, rfl⟩
                rw [hu5, hgb]
                have nZSgb : w.heap.size < gb := (by rw [← hgb]; exact (Array.getElem?_eq_some_iff.1 ZS.out).1)
                have nZPgb : w.heap.size + 1 < gb := (by rw [← hgb]; exact (Array.getElem?_eq_some_iff.1 ZP.out).1)
                have nTgagb : ga < gb := (by rw [← hgb]; exact (Array.getElem?_eq_some_iff.1 Tga.out).1)
                replace ZS : Hid (u5.heap[w.heap.size]? = some (.cells #[.int .i64 sc, .string sr, .int .i64 sv, .slice A0 f.length c0, .string sb, .int .i64 st, .slice B0 n0 m0] 37 (0, 0))) := (by show _ = _; rw [← hu5]; exact zero_more ZS.out)
                replace ZP : Hid (u5.heap[w.heap.size + 1]? = some (.cells #[.int .i64 pc, .string pr, .int .i64 pv, .slice A1 g.length c1, .string pb] 26 (0, 0))) := (by show _ = _; rw [← hu5]; exact zero_more ZP.out)
                replace Tga : Hid (u5.heap[ga]? = some (.cells #[.int .i64 0, .string ⟨#[]⟩, .int .i64 0, .slice none 0 0, .string ⟨#[]⟩, .int .i64 0, .slice none 0 0] 37 (0, 0))) := (by show _ = _; rw [← hu5]; exact zero_more Tga.out)
                have Tgb : Hid (u5.heap[gb]? = some (.cells #[.int .i64 0, .string ⟨#[]⟩, .int .i64 0, .slice none 0 0, .string ⟨#[]⟩, .int .i64 0, .slice none 0 0] 37 (0, 0))) := (by show _ = _; rw [← hu5, ← hgb]; exact heap_alloc_new u4 _)
                have dHKPgb : DisA B0 n0 gb := HKP.out.dis (by rw [← hgb]; exact Nat.le_refl _)
                replace HKP := Lib.hid (HKP.out.alloc (.cells #[.int .i64 0, .string ⟨#[]⟩, .int .i64 0, .slice none 0 0, .string ⟨#[]⟩, .int .i64 0, .slice none 0 0] 37))
                rw [hu5] at HKP
                have dSAgb : DisA X1 FM.length gb := SA.out.dis (by rw [← hgb]; exact Nat.le_refl _)
                replace SA := Lib.hid (SA.out.alloc (.cells #[.int .i64 0, .string ⟨#[]⟩, .int .i64 0, .slice none 0 0, .string ⟨#[]⟩, .int .i64 0, .slice none 0 0] 37))
                rw [hu5] at SA
                have dKAgb : DisA D1 q1 gb := KA.out.dis (by rw [← hgb]; exact Nat.le_refl _)
                replace KA := Lib.hid (KA.out.alloc (.cells #[.int .i64 0, .string ⟨#[]⟩, .int .i64 0, .slice none 0 0, .string ⟨#[]⟩, .int .i64 0, .slice none 0 0] 37))
                rw [hu5] at KA
                have dSBgb : DisA X2 FM.length gb := SB.out.dis (by rw [← hgb]; exact Nat.le_refl _)
                replace SB := Lib.hid (SB.out.alloc (.cells #[.int .i64 0, .string ⟨#[]⟩, .int .i64 0, .slice none 0 0, .string ⟨#[]⟩, .int .i64 0, .slice none 0 0] 37))
                rw [hu5] at SB
                have nbgb : w.heap.size ≤ gb := (by rw [← hgb]; exact HB.out.size)
                replace HB : Hid (Below w.heap.size w u5) := (by show Below _ _ _; rw [← hu5]; exact HB.out.alloc HB.out.size _)
                clear hu5 hgb
                refine hK.out _ _ (⟨(cel7 ZS.out).1, (cel7 ZS.out).2.1, (cel7 ZS.out).2.2.1, (cel7 ZS.out).2.2.2.1, (cel7 ZS.out).2.2.2.2.1, (cel7 ZS.out).2.2.2.2.2.1, (cel7 ZS.out).2.2.2.2.2.2, (cel5r ZP.out).1, (cel5r ZP.out).2.1, (cel5r ZP.out).2.2.1, (cel5r ZP.out).2.2.2.1, (cel5r ZP.out).2.2.2.2⟩) (fun hHeld => ?_)
                clear hK
                try simp only [Act.put, List.setIfInBounds_toArray, List.set_cons_zero, List.set_cons_succ]
                refine wpAnyH_ready (rs := [10]) (by kernel_rfl) (by simp) (AllReadyH.cons rfl (fun K hK => ?_) AllReadyH.nil)
                refine step_store_row rfl _ _ _ rfl ga #[.int .i64 sc, .string sr, .int .i64 sv, .slice X1 FM.length e1, .string sb, .int .i64 now, .slice D1 q1 k1] rfl rfl 37 #[.int .i64 0, .string ⟨#[]⟩, .int .i64 0, .slice none 0 0, .string ⟨#[]⟩, .int .i64 0, .slice none 0 0] Tga.out (by kernel_rfl) rfl (by simp [Value.oneCell']) ?_
                obtain ⟨u6, hu6⟩ : ∃ W, u5.setRow ga #[.int .i64 sc, .string sr, .int .i64 sv, .slice X1 FM.length e1, .string sb, .int .i64 now, .slice D1 q1 k1] = W := ⟨_, rfl⟩
                rw [hu6]
                replace ZS : Hid (u6.heap[w.heap.size]? = some (.cells #[.int .i64 sc, .string sr, .int .i64 sv, .slice A0 f.length c0, .string sb, .int .i64 st, .slice B0 n0 m0] 37 (0, 0))) := (by show _ = _; rw [← hu6, setRow_other _ _ _ _ (by omega)]; exact ZS.out)
                replace ZP : Hid (u6.heap[w.heap.size + 1]? = some (.cells #[.int .i64 pc, .string pr, .int .i64 pv, .slice A1 g.length c1, .string pb] 26 (0, 0))) := (by show _ = _; rw [← hu6, setRow_other _ _ _ _ (by omega)]; exact ZP.out)
                replace Tgb : Hid (u6.heap[gb]? = some (.cells #[.int .i64 0, .string ⟨#[]⟩, .int .i64 0, .slice none 0 0, .string ⟨#[]⟩, .int .i64 0, .slice none 0 0] 37 (0, 0))) := (by show _ = _; rw [← hu6, setRow_other _ _ _ _ (by omega)]; exact Tgb.out)
                replace HKP := Lib.hid (HKP.out.setRowD dHKPga #[.int .i64 sc, .string sr, .int .i64 sv, .slice X1 FM.length e1, .string sb, .int .i64 now, .slice D1 q1 k1])
                rw [hu6] at HKP
                replace SA := Lib.hid (SA.out.setRowD dSAga #[.int .i64 sc, .string sr, .int .i64 sv, .slice X1 FM.length e1, .string sb, .int .i64 now, .slice D1 q1 k1])
                rw [hu6] at SA
                replace KA := Lib.hid (KA.out.setRowD dKAga #[.int .i64 sc, .string sr, .int .i64 sv, .slice X1 FM.length e1, .string sb, .int .i64 now, .slice D1 q1 k1])
                rw [hu6] at KA
                replace SB := Lib.hid (SB.out.setRowD dSBga #[.int .i64 sc, .string sr, .int .i64 sv, .slice X1 FM.length e1, .string sb, .int .i64 now, .slice D1 q1 k1])
                rw [hu6] at SB
                replace Tga : Hid (u6.heap[ga]? = some (.cells #[.int .i64 sc, .string sr, .int .i64 sv, .slice X1 FM.length e1, .string sb, .int .i64 now, .slice D1 q1 k1] 37 (0, 0))) := (by show _ = _; rw [← hu6]; exact setRow_heap _ _ _ _ _ _ Tga.out)
                replace HB : Hid (Below w.heap.size w u6) := (by show Below _ _ _; rw [← hu6]; exact below_setRow HB.out nbga _)
                clear hu6
                refine hK.out _ _ (⟨(cel7 ZS.out).1, (cel7 ZS.out).2.1, (cel7 ZS.out).2.2.1, (cel7 ZS.out).2.2.2.1, (cel7 ZS.out).2.2.2.2.1, (cel7 ZS.out).2.2.2.2.2.1, (cel7 ZS.out).2.2.2.2.2.2, (cel5r ZP.out).1, (cel5r ZP.out).2.1, (cel5r ZP.out).2.2.1, (cel5r ZP.out).2.2.2.1, (cel5r ZP.out).2.2.2.2⟩) (fun hHeld => ?_)
                clear hK
                try simp only [Act.put, List.setIfInBounds_toArray, List.set_cons_zero, List.set_cons_succ]
                refine wpAnyH_ready (rs := [11]) (by kernel_rfl) (by simp) (AllReadyH.cons rfl (fun K hK => ?_) AllReadyH.nil)
                refine step_store_row rfl _ _ _ rfl gb #[.int .i64 sc, .string sr, .int .i64 sv, .slice X2 FM.length e2, .string sb, .int .i64 now, .slice B0 n0 m0] rfl rfl 37 #[.int .i64 0, .string ⟨#[]⟩, .int .i64 0, .slice none 0 0, .string ⟨#[]⟩, .int .i64 0, .slice none 0 0] Tgb.out (by kernel_rfl) rfl (by simp [Value.oneCell']) ?_
                obtain ⟨u7, hu7⟩ : ∃ W, u6.setRow gb #[.int .i64 sc, .string sr, .int .i64 sv, .slice X2 FM.length e2, .string sb, .int .i64 now, .slice B0 n0 m0] = W := ⟨_, rfl⟩
                rw [hu7]
                replace ZS : Hid (u7.heap[w.heap.size]? = some (.cells #[.int .i64 sc, .string sr, .int .i64 sv, .slice A0 f.length c0, .string sb, .int .i64 st, .slice B0 n0 m0] 37 (0, 0))) := (by show _ = _; rw [← hu7, setRow_other _ _ _ _ (by omega)]; exact ZS.out)
                replace ZP : Hid (u7.heap[w.heap.size + 1]? = some (.cells #[.int .i64 pc, .string pr, .int .i64 pv, .slice A1 g.length c1, .string pb] 26 (0, 0))) := (by show _ = _; rw [← hu7, setRow_other _ _ _ _ (by omega)]; exact ZP.out)
                replace Tga : Hid (u7.heap[ga]? = some (.cells #[.int .i64 sc, .string sr, .int .i64 sv, .slice X1 FM.length e1, .string sb, .int .i64 now, .slice D1 q1 k1] 37 (0, 0))) := (by show _ = _; rw [← hu7, setRow_other _ _ _ _ (by omega)]; exact Tga.out)
                replace HKP := Lib.hid (HKP.out.setRowD dHKPgb #[.int .i64 sc, .string sr, .int .i64 sv, .slice X2 FM.length e2, .string sb, .int .i64 now, .slice B0 n0 m0])
                rw [hu7] at HKP
                replace SA := Lib.hid (SA.out.setRowD dSAgb #[.int .i64 sc, .string sr, .int .i64 sv, .slice X2 FM.length e2, .string sb, .int .i64 now, .slice B0 n0 m0])
                rw [hu7] at SA
                replace KA := Lib.hid (KA.out.setRowD dKAgb #[.int .i64 sc, .string sr, .int .i64 sv, .slice X2 FM.length e2, .string sb, .int .i64 now, .slice B0 n0 m0])
                rw [hu7] at KA
                replace SB := Lib.hid (SB.out.setRowD dSBgb #[.int .i64 sc, .string sr, .int .i64 sv, .slice X2 FM.length e2, .string sb, .int .i64 now, .slice B0 n0 m0])
                rw [hu7] at SB
                replace Tgb : Hid (u7.heap[gb]? = some (.cells #[.int .i64 sc, .string sr, .int .i64 sv, .slice X2 FM.length e2, .string sb, .int .i64 now, .slice B0 n0 m0] 37 (0, 0))) := (by show _ = _; rw [← hu7]; exact setRow_heap _ _ _ _ _ _ Tgb.out)
                replace HB : Hid (Below w.heap.size w u7) := (by show Below _ _ _; rw [← hu7]; exact below_setRow HB.out nbgb _)
                clear hu7
                refine hK.out _ _ (⟨(cel7 ZS.out).1, (cel7 ZS.out).2.1, (cel7 ZS.out).2.2.1, (cel7 ZS.out).2.2.2.1, (cel7 ZS.out).2.2.2.2.1, (cel7 ZS.out).2.2.2.2.2.1, (cel7 ZS.out).2.2.2.2.2.2, (cel5r ZP.out).1, (cel5r ZP.out).2.1, (cel5r ZP.out).2.2.1, (cel5r ZP.out).2.2.2.1, (cel5r ZP.out).2.2.2.2⟩) (fun hHeld => ?_)
                clear hK
                try simp only [Act.put, List.setIfInBounds_toArray, List.set_cons_zero, List.set_cons_succ]
                refine wpAnyH_done (by kernel_rfl) ?_ _
                go_wp2_with fail
                go_meet
                exact ⟨ga, gb, X1, e1, D1, q1, k1, X2, e2, rfl, rfl, KA.out.len.symm.trans HKL.out, Tga.out, Tgb.out, ZS.out, ZP.out, SA.out, SB.out, KA.out, HKP.out, HB.out⟩
              · go_simp
                obtain ⟨u8, hu8⟩ : ∃ W, u3.alloc (.cells #[.int .i64 0, .string ⟨#[]⟩, .int .i64 0, .slice none 0 0, .string ⟨#[]⟩, .int .i64 0, .slice none 0 0] 37) = W := ⟨_, rfl⟩
                obtain ⟨gb, hgb⟩ : ∃ g, u3.heap.size = g := ⟨_, rfl⟩
                rw [hu8, hgb]
                have nZSgb : w.heap.size < gb := (by rw [← hgb]; exact (Array.getElem?_eq_some_iff.1 ZS.out).1)
                have nZPgb : w.heap.size + 1 < gb := (by rw [← hgb]; exact (Array.getElem?_eq_some_iff.1 ZP.out).1)
                replace ZS : Hid (u8.heap[w.heap.size]? = some (.cells #[.int .i64 sc, .string sr, .int .i64 sv, .slice A0 f.length c0, .string sb, .int .i64 st, .slice B0 n0 m0] 37 (0, 0))) := (by show _ = _; rw [← hu8]; exact zero_more ZS.out)
                replace ZP : Hid (u8.heap[w.heap.size + 1]? = some (.cells #[.int .i64 pc, .string pr, .int .i64 pv, .slice A1 g.length c1, .string pb] 26 (0, 0))) := (by show _ = _; rw [← hu8]; exact zero_more ZP.out)
                have Tgb : Hid (u8.heap[gb]? = some (.cells #[.int .i64 0, .string ⟨#[]⟩, .int .i64 0, .slice none 0 0, .string ⟨#[]⟩, .int .i64 0, .slice none 0 0] 37 (0, 0))) := (by show _ = _; rw [← hu8, ← hgb]; exact heap_alloc_new u3 _)
                have dHKPgb : DisA B0 n0 gb := HKP.out.dis (by rw [← hgb]; exact Nat.le_refl _)
                replace HKP := Lib.hid (HKP.out.alloc (.cells #[.int .i64 0, .string ⟨#[]⟩, .int .i64 0, .slice none 0 0, .string ⟨#[]⟩, .int .i64 0, .slice none 0 0] 37))
                rw [hu8] at HKP
                have dSAgb : DisA X1 FM.length gb := SA.out.dis (by rw [← hgb]; exact Nat.le_refl _)
                replace SA := Lib.hid (SA.out.alloc (.cells #[.int .i64 0, .string ⟨#[]⟩, .int .i64 0, .slice none 0 0, .string ⟨#[]⟩, .int .i64 0, .slice none 0 0] 37))
                rw [hu8] at SA
                have dKAgb : DisA D1 q1 gb := KA.out.dis (by rw [← hgb]; exact Nat.le_refl _)
                replace KA := Lib.hid (KA.out.alloc (.cells #[.int .i64 0, .string ⟨#[]⟩, .int .i64 0, .slice none 0 0, .string ⟨#[]⟩, .int .i64 0, .slice none 0 0] 37))
                rw [hu8] at KA
                have dSBgb : DisA X2 FM.length gb := SB.out.dis (by rw [← hgb]; exact Nat.le_refl _)
                replace SB := Lib.hid (SB.out.alloc (.cells #[.int .i64 0, .string ⟨#[]⟩, .int .i64 0, .slice none 0 0, .string ⟨#[]⟩, .int .i64 0, .slice none 0 0] 37))
                rw [hu8] at SB
                have nbgb : w.heap.size ≤ gb := (by rw [← hgb]; exact HB.out.size)
                replace HB : Hid (Below w.heap.size w u8) := (by show Below _ _ _; rw [← hu8]; exact HB.out.alloc HB.out.size _)
                clear hu8 hgb
                refine hK.out _ _ (⟨(cel7 ZS.out).1, (cel7 ZS.out).2.1, (cel7 ZS.out).2.2.1, (cel7 ZS.out).2.2.2.1, (cel7 ZS.out).2.2.2.2.1, (cel7 ZS.out).2.2.2.2.2.1, (cel7 ZS.out).2.2.2.2.2.2, (cel5r ZP.out).1, (cel5r ZP.out).2.1, (cel5r ZP.out).2.2.1, (cel5r ZP.out).2.2.2.1, (cel5r ZP.out).2.2.2.2⟩) (fun hHeld => ?_)
                clear hK
                try simp only [Act.put, List.setIfInBounds_toArray, List.set_cons_zero, List.set_cons_succ]
                refine wpAnyH_ready (rs := [8]) (by kernel_rfl) (by simp) (AllReadyH.cons rfl (fun K hK => ?_) AllReadyH.nil)
                go_simp
                obtain ⟨u9, hu9⟩ : ∃ W, u8.alloc (.cells #[.int .i64 0, .string ⟨#[]⟩, .int .i64 0, .slice none 0 0, .string ⟨#[]⟩, .int .i64 0, .slice none 0 0] 37) = W := ⟨_, rfl⟩
                obtain ⟨ga, hga⟩ : ∃ g, u8.heap.size = g := ⟨_, rfl⟩
                rw [hu9, hga]
                have nZSga : w.heap.size < ga := (by rw [← hga]; exact (Array.getElem?_eq_some_iff.1 ZS.out).1)
                have nZPga : w.heap.size + 1 < ga := (by rw [← hga]; exact (Array.getElem?_eq_some_iff.1 ZP.out).1)
                have nTgbga : gb < ga := (by rw [← hga]; exact (Array.getElem?_eq_some_iff.1 Tgb.out).1)
                replace ZS : Hid (u9.heap[w.heap.size]? = some (.cells #[.int .i64 sc, .string sr, .int .i64 sv, .slice A0 f.length c0, .string sb, .int .i64 st, .slice B0 n0 m0] 37 (0, 0))) := (by show _ = _; rw [← hu9]; exact zero_more ZS.out)
                replace ZP : Hid (u9.heap[w.heap.size + 1]? = some (.cells #[.int .i64 pc, .string pr, .int .i64 pv, .slice A1 g.length c1, .string pb] 26 (0, 0))) := (by show _ = _; rw [← hu9]; exact zero_more ZP.out)
                replace Tgb : Hid (u9.heap[gb]? = some (.cells #[.int .i64 0, .string ⟨#[]⟩, .int .i64 0, .slice none 0 0, .string ⟨#[]⟩, .int .i64 0, .slice none 0 0] 37 (0, 0))) := (by show _ = _; rw [← hu9]; exact zero_more Tgb.out)
                have Tga : Hid (u9.heap[ga]? = some (.cells #[.int .i64 0, .string ⟨#[]⟩, .int .i64 0, .slice none 0 0, .string ⟨#[]⟩, .int .i64 0, .slice none 0 0] 37 (0, 0))) := (by show _ = _; rw [← hu9, ← hga]; exact heap_alloc_new u8 _)
                have dHKPga : DisA B0 n0 ga := HKP.out.dis (by rw [← hga]; exact Nat.le_refl _)
                replace HKP := Lib.hid (HKP.out.alloc (.cells #[.int .i64 0, .string ⟨#[]⟩, .int .i64 0, .slice none 0 0, .string ⟨#[]⟩, .int .i64 0, .slice none 0 0] 37))
                rw [hu9] at HKP
                have dSAga : DisA X1 FM.length ga := SA.out.dis (by rw [← hga]; exact Nat.le_refl _)
                replace SA := Lib.hid (SA.out.alloc (.cells #[.int .i64 0, .string ⟨#[]⟩, .int .i64 0, .slice none 0 0, .string ⟨#[]⟩, .int .i64 0, .slice none 0 0] 37))
                rw [hu9] at SA
                have dKAga : DisA D1 q1 ga := KA.out.dis (by rw [← hga]; exact Nat.le_refl _)
                replace KA := Lib.hid (KA.out.alloc (.cells #[.int .i64 0, .string ⟨#[]⟩, .int .i64 0, .slice none 0 0, .string ⟨#[]⟩, .int .i64 0, .slice none 0 0] 37))
                rw [hu9] at KA
                have dSBga : DisA X2 FM.length ga := SB.out.dis (by rw [← hga]; exact Nat.le_refl _)
                replace SB := Lib.hid (SB.out.alloc (.cells #[.int .i64 0, .string ⟨#[]⟩, .int .i64 0, .slice none 0 0, .string ⟨#[]⟩, .int .i64 0, .slice none 0 0] 37))
                rw [hu9] at SB
                have nbga : w.heap.size ≤ ga := (by rw [← hga]; exact HB.out.size)
                replace HB : Hid (Below w.heap.size w u9) := (by show Below _ _ _; rw [← hu9]; exact HB.out.alloc HB.out.size _)
                clear hu9 hga
                refine hK.out _ _ (⟨(cel7 ZS.out).1, (cel7 ZS.out).2.1, (cel7 ZS.out).2.2.1, (cel7 ZS.out).2.2.2.1, (cel7 ZS.out).2.2.2.2.1, (cel7 ZS.out).2.2.2.2.2.1, (cel7 ZS.out).2.2.2.2.2.2, (cel5r ZP.out).1, (cel5r ZP.out).2.1, (cel5r ZP.out).2.2.1, (cel5r ZP.out).2.2.2.1, (cel5r ZP.out).2.2.2.2⟩) (fun hHeld => ?_)
                clear hK
                try simp only [Act.put, List.setIfInBounds_toArray, List.set_cons_zero, List.set_cons_succ]
                refine wpAnyH_ready (rs := [10]) (by kernel_rfl) (by simp) (AllReadyH.cons rfl (fun K hK => ?_) AllReadyH.nil)
                refine step_store_row rfl _ _ _ rfl ga #[.int .i64 sc, .string sr, .int .i64 sv, .slice X1 FM.length e1, .string sb, .int .i64 now, .slice D1 q1 k1] rfl rfl 37 #[.int .i64 0, .string ⟨#[]⟩, .int .i64 0, .slice none 0 0, .string ⟨#[]⟩, .int .i64 0, .slice none 0 0] Tga.out (by kernel_rfl) rfl (by simp [Value.oneCell']) ?_
                obtain ⟨u10, hu10⟩ : ∃ W, u9.setRow ga #[.int .i64 sc, .string sr, .int .i64 sv, .slice X1 FM.length e1, .string sb, .int .i64 now, .slice D1 q1 k1] = W := ⟨_, rfl⟩
                rw [hu10]
                replace ZS : Hid (u10.heap[w.heap.size]? = some (.cells #[.int .i64 sc, .string sr, .int .i64 sv, .slice A0 f.length c0, .string sb, .int .i64 st, .slice B0 n0 m0] 37 (0, 0))) := (by show _ = _; rw [← hu10, setRow_other _ _ _ _ (by omega)]; exact ZS.out)
                replace ZP : Hid (u10.heap[w.heap.size + 1]? = some (.cells #[.int .i64 pc, .string pr, .int .i64 pv, .slice A1 g.length c1, .string pb] 26 (0, 0))) := (by show _ = _; rw [← hu10, setRow_other _ _ _ _ (by omega)]; exact ZP.out)
                replace Tgb : Hid (u10.heap[gb]? = some (.cells #[.int .i64 0, .string ⟨#[]⟩, .int .i64 0, .slice none 0 0, .string ⟨#[]⟩, .int .i64 0, .slice none 0 0] 37 (0, 0))) := (by show _ = _; rw [← hu10, setRow_other _ _ _ _ (by omega)]; exact Tgb.out)
                replace HKP := Lib.hid (HKP.out.setRowD dHKPga #[.int .i64 sc, .string sr, .int .i64 sv, .slice X1 FM.length e1, .string sb, .int .i64 now, .slice D1 q1 k1])
                rw [hu10] at HKP
                replace SA := Lib.hid (SA.out.setRowD dSAga #[.int .i64 sc, .string sr, .int .i64 sv, .slice X1 FM.length e1, .string sb, .int .i64 now, .slice D1 q1 k1])
                rw [hu10] at SA
                replace KA := Lib.hid (KA.out.setRowD dKAga #[.int .i64 sc, .string sr, .int .i64 sv, .slice X1 FM.length e1, .string sb, .int .i64 now, .slice D1 q1 k1])
                rw [hu10] at KA
                replace SB := Lib.hid (SB.out.setRowD dSBga #[.int .i64 sc, .string sr, .int .i64 sv, .slice X1 FM.length e1, .string sb, .int .i64 now, .slice D1 q1 k1])
                rw [hu10] at SB
                replace Tga : Hid (u10.heap[ga]? = some (.cells #[.int .i64 sc, .string sr, .int .i64 sv, .slice X1 FM.length e1, .string sb, .int .i64 now, .slice D1 q1 k1] 37 (0, 0))) := (by show _ = _; rw [← hu10]; exact setRow_heap _ _ _ _ _ _ Tga.out)
                replace HB : Hid (Below w.heap.size w u10) := (by show Below _ _ _; rw [← hu10]; exact below_setRow HB.out nbga _)
                clear hu10
                refine hK.out _ _ (⟨(cel7 ZS.out).1, (cel7 ZS.out).2.1, (cel7 ZS.out).2.2.1, (cel7 ZS.out).2.2.2.1, (cel7 ZS.out).2.2.2.2.1, (cel7 ZS.out).2.2.2.2.2.1, (cel7 ZS.out).2.2.2.2.2.2, (cel5r ZP.out).1, (cel5r ZP.out).2.1, (cel5r ZP.out).2.2.1, (cel5r ZP.out).2.2.2.1, (cel5r ZP.out).2.2.2.2⟩) (fun hHeld => ?_)
                clear hK
                try simp only [Act.put, List.setIfInBounds_toArray, List.set_cons_zero, List.set_cons_succ]
                refine wpAnyH_ready (rs := [11]) (by kernel_rfl) (by simp) (AllReadyH.cons rfl (fun K hK => ?_) AllReadyH.nil)
                refine step_store_row rfl _ _ _ rfl gb #[.int .i64 sc, .string sr, .int .i64 sv, .slice X2 FM.length e2, .string sb, .int .i64 now, .slice B0 n0 m0] rfl rfl 37 #[.int .i64 0, .string ⟨#[]⟩, .int .i64 0, .slice none 0 0, .string ⟨#[]⟩, .int .i64 0, .slice none 0 0] Tgb.out (by kernel_rfl) rfl (by simp [Value.oneCell']) ?_
                obtain ⟨u11, hu11⟩ : ∃ W, u10.setRow gb #[.int .i64 sc, .string sr, .int .i64 sv, .slice X2 FM.length e2, .string sb, .int .i64 now, .slice B0 n0 m0] = W := ⟨_, rfl⟩
                rw [hu11]
                replace ZS : Hid (u11.heap[w.heap.size]? = some (.cells #[.int .i64 sc, .string sr, .int .i64 sv, .slice A0 f.length c0, .string sb, .int .i64 st, .slice B0 n0 m0] 37 (0, 0))) := (by show _ = _; rw [← hu11, setRow_other _ _ _ _ (by omega)]; exact ZS.out)
                replace ZP : Hid (u11.heap[w.heap.size + 1]? = some (.cells #[.int .i64 pc, .string pr, .int .i64 pv, .slice A1 g.length c1, .string pb] 26 (0, 0))) := (by show _ = _; rw [← hu11, setRow_other _ _ _ _ (by omega)]; exact ZP.out)
                replace Tga : Hid (u11.heap[ga]? = some (.cells #[.int .i64 sc, .string sr, .int .i64 sv, .slice X1 FM.length e1, .string sb, .int .i64 now, .slice D1 q1 k1] 37 (0, 0))) := (by show _ = _; rw [← hu11, setRow_other _ _ _ _ (by omega)]; exact Tga.out)
                replace HKP := Lib.hid (HKP.out.setRowD dHKPgb #[.int .i64 sc, .string sr, .int .i64 sv, .slice X2 FM.length e2, .string sb, .int .i64 now, .slice B0 n0 m0])
                rw [hu11] at HKP
                replace SA := Lib.hid (SA.out.setRowD dSAgb #[.int .i64 sc, .string sr, .int .i64 sv, .slice X2 FM.length e2, .string sb, .int .i64 now, .slice B0 n0 m0])
                rw [hu11] at SA
                replace KA := Lib.hid (KA.out.setRowD dKAgb #[.int .i64 sc, .string sr, .int .i64 sv, .slice X2 FM.length e2, .string sb, .int .i64 now, .slice B0 n0 m0])
                rw [hu11] at KA
                replace SB := Lib.hid (SB.out.setRowD dSBgb #[.int .i64 sc, .string sr, .int .i64 sv, .slice X2 FM.length e2, .string sb, .int .i64 now, .slice B0 n0 m0])
                rw [hu11] at SB
                replace Tgb : Hid (u11.heap[gb]? = some (.cells #[.int .i64 sc, .string sr, .int .i64 sv, .slice X2 FM.length e2, .string sb, .int .i64 now, .slice B0 n0 m0] 37 (0, 0))) := (by show _ = _; rw [← hu11]; exact setRow_heap _ _ _ _ _ _ Tgb.out)
                replace HB : Hid (Below w.heap.size w u11) := (by show Below _ _ _; rw [← hu11]; exact below_setRow HB.out nbgb _)
                clear hu11
                refine hK.out _ _ (⟨(cel7 ZS.out).1, (cel7 ZS.out).2.1, (cel7 ZS.out).2.2.1, (cel7 ZS.out).2.2.2.1, (cel7 ZS.out).2.2.2.2.1, (cel7 ZS.out).2.2.2.2.2.1, (cel7 ZS.out).2.2.2.2.2.2, (cel5r ZP.out).1, (cel5r ZP.out).2.1, (cel5r ZP.out).2.2.1, (cel5r ZP.out).2.2.2.1, (cel5r ZP.out).2.2.2.2⟩) (fun hHeld => ?_)
                clear hK
                try simp only [Act.put, List.setIfInBounds_toArray, List.set_cons_zero, List.set_cons_succ]
                refine wpAnyH_done (by kernel_rfl) ?_ _
                go_wp2_with fail
                go_meet
                exact ⟨ga, gb, X1, e1, D1, q1, k1, X2, e2, rfl, rfl, KA.out.len.symm.trans HKL.out, Tga.out, Tgb.out, ZS.out, ZP.out, SA.out, SB.out, KA.out, HKP.out, HB.out⟩
            · go_simp
              obtain ⟨u12, hu12⟩ : ∃ W, u2.alloc (.cells #[.int .i64 0, .string ⟨#[]⟩, .int .i64 0, .slice none 0 0, .string ⟨#[]⟩, .int .i64 0, .slice none 0 0] 37) = W := ⟨_, rfl⟩
              obtain ⟨ga, hga⟩ : ∃ g, u2.heap.size = g := ⟨_, rfl⟩
              rw [hu12, hga]
              have nZSga : w.heap.size < ga := (by rw [← hga]; exact (Array.getElem?_eq_some_iff.1 ZS.out).1)
              have nZPga : w.heap.size + 1 < ga := (by rw [← hga]; exact (Array.getElem?_eq_some_iff.1 ZP.out).1)
              replace ZS : Hid (u12.heap[w.heap.size]? = some (.cells #[.int .i64 sc, .string sr, .int .i64 sv, .slice A0 f.length c0, .string sb, .int .i64 st, .slice B0 n0 m0] 37 (0, 0))) := (by show _ = _; rw [← hu12]; exact zero_more ZS.out)
              replace ZP : Hid (u12.heap[w.heap.size + 1]? = some (.cells #[.int .i64 pc, .string pr, .int .i64 pv, .slice A1 g.length c1, .string pb] 26 (0, 0))) := (by show _ = _; rw [← hu12]; exact zero_more ZP.out)
              have Tga : Hid (u12.heap[ga]? = some (.cells #[.int .i64 0, .string ⟨#[]⟩, .int .i64 0, .slice none 0 0, .string ⟨#[]⟩, .int .i64 0, .slice none 0 0] 37 (0, 0))) := (by show _ = _; rw [← hu12, ← hga]; exact heap_alloc_new u2 _)
              have dHKPga : DisA B0 n0 ga := HKP.out.dis (by rw [← hga]; exact Nat.le_refl _)
              replace HKP := Lib.hid (HKP.out.alloc (.cells #[.int .i64 0, .string ⟨#[]⟩, .int .i64 0, .slice none 0 0, .string ⟨#[]⟩, .int .i64 0, .slice none 0 0] 37))
              rw [hu12] at HKP
              have dSAga : DisA X1 FM.length ga := SA.out.dis (by rw [← hga]; exact Nat.le_refl _)
              replace SA := Lib.hid (SA.out.alloc (.cells #[.int .i64 0, .string ⟨#[]⟩, .int .i64 0, .slice none 0 0, .string ⟨#[]⟩, .int .i64 0, .slice none 0 0] 37))
              rw [hu12] at SA
              have dKAga : DisA D1 q1 ga := KA.out.dis (by rw [← hga]; exact Nat.le_refl _)
              replace KA := Lib.hid (KA.out.alloc (.cells #[.int .i64 0, .string ⟨#[]⟩, .int .i64 0, .slice none 0 0, .string ⟨#[]⟩, .int .i64 0, .slice none 0 0] 37))
              rw [hu12] at KA
              have nbga : w.heap.size ≤ ga := (by rw [← hga]; exact HB.out.size)
              replace HB : Hid (Below w.heap.size w u12) := (by show Below _ _ _; rw [← hu12]; exact HB.out.alloc HB.out.size _)
              clear hu12 hga
              refine hK.out _ _ (⟨(cel7 ZS.out).1, (cel7 ZS.out).2.1, (cel7 ZS.out).2.2.1, (cel7 ZS.out).2.2.2.1, (cel7 ZS.out).2.2.2.2.1, (cel7 ZS.out).2.2.2.2.2.1, (cel7 ZS.out).2.2.2.2.2.2, (cel5r ZP.out).1, (cel5r ZP.out).2.1, (cel5r ZP.out).2.2.1, (cel5r ZP.out).2.2.2.1, (cel5r ZP.out).2.2.2.2⟩) (fun hHeld => ?_)
              clear hK
              try simp only [Act.put, List.setIfInBounds_toArray, List.set_cons_zero, List.set_cons_succ]
              refine wpAnyH_ready (rs := [7, 9]) (by kernel_rfl) (by simp) (AllReadyH.cons rfl (fun K hK => ?_) (AllReadyH.cons rfl (fun K hK => ?_) AllReadyH.nil))
              · have hxga : ga < u12.heap.size := (Array.getElem?_eq_some_iff.1 Tga.out).1
                go_simp
                go_at_call 20
                refine (K2.out _ _ HB.out).mono ?_
                rintro e u13 ⟨X2, e2, rfl, hSB, fSB, hb⟩
                replace ZS := Lib.hid (zero_still hb ZS.out)
                replace ZP := Lib.hid (zero_still hb ZP.out)
                replace Tga := Lib.hid (zero_still hb Tga.out)
                replace HKP := Lib.hid (HKP.out.below hb)
                replace SA := Lib.hid (SA.out.below hb)
                replace KA := Lib.hid (KA.out.below hb)
                have dSBga : DisA X2 FM.length ga := fSB.dis _ hxga
                have SB := Lib.hid hSB
                clear hSB
                replace HB := Lib.hid (below_then HB.out hb)
                clear hb
                try go_wp2_with fail
                refine hK.out _ _ (⟨(cel7 ZS.out).1, (cel7 ZS.out).2.1, (cel7 ZS.out).2.2.1, (cel7 ZS.out).2.2.2.1, (cel7 ZS.out).2.2.2.2.1, (cel7 ZS.out).2.2.2.2.2.1, (cel7 ZS.out).2.2.2.2.2.2, (cel5r ZP.out).1, (cel5r ZP.out).2.1, (cel5r ZP.out).2.2.1, (cel5r ZP.out).2.2.2.1, (cel5r ZP.out).2.2.2.2⟩) (fun hHeld => ?_)
                clear hK
                try simp only [Act.put, List.setIfInBounds_toArray, List.set_cons_zero, List.set_cons_succ]
                refine wpAnyH_ready (rs := [9]) (by kernel_rfl) (by simp) (AllReadyH.cons rfl (fun K hK => ?_) AllReadyH.nil)
                go_simp
                obtain ⟨u14, hu14⟩ : ∃ W, u13.alloc (.cells #[.int .i64 0, .string ⟨#[]⟩, .int .i64 0, .slice none 0 0, .string ⟨#[]⟩, .int .i64 0, .slice none 0 0] 37) = W := ⟨_, rfl⟩
                obtain ⟨gb, hgb⟩ : ∃ g, u13.heap.size = g := ⟨_, rfl⟩
                rw [hu14, hgb]
                have nZSgb : w.heap.size < gb := (by rw [← hgb]; exact (Array.getElem?_eq_some_iff.1 ZS.out).1)
                have nZPgb : w.heap.size + 1 < gb := (by rw [← hgb]; exact (Array.getElem?_eq_some_iff.1 ZP.out).1)
                have nTgagb : ga < gb := (by rw [← hgb]; exact (Array.getElem?_eq_some_iff.1 Tga.out).1)
                replace ZS : Hid (u14.heap[w.heap.size]? = some (.cells #[.int .i64 sc, .string sr, .int .i64 sv, .slice A0 f.length c0, .string sb, .int .i64 st, .slice B0 n0 m0] 37 (0, 0))) := (by show _ = _; rw [← hu14]; exact zero_more ZS.out)
                replace ZP : Hid (u14.heap[w.heap.size + 1]? = some (.cells #[.int .i64 pc, .string pr, .int .i64 pv, .slice A1 g.length c1, .string pb] 26 (0, 0))) := (by show _ = _; rw [← hu14]; exact zero_more ZP.out)
                replace Tga : Hid (u14.heap[ga]? = some (.cells #[.int .i64 0, .string ⟨#[]⟩, .int .i64 0, .slice none 0 0, .string ⟨#[]⟩, .int .i64 0, .slice none 0 0] 37 (0, 0))) := (by show _ = _; rw [← hu14]; exact zero_more Tga.out)
                have Tgb : Hid (u14.heap[gb]? = some (.cells #[.int .i64 0, .string ⟨#[]⟩, .int .i64 0, .slice none 0 0, .string ⟨#[]⟩, .int .i64 0, .slice none 0 0] 37 (0, 0))) := (by show _ = _; rw [← hu14, ← hgb]; exact heap_alloc_new u13 _)
                have dHKPgb : DisA B0 n0 gb := HKP.out.dis (by rw [← hgb]; exact Nat.le_refl _)
                replace HKP := Lib.hid (HKP.out.alloc (.cells #[.int .i64 0, .string ⟨#[]⟩, .int .i64 0, .slice none 0 0, .string ⟨#[]⟩, .int .i64 0, .slice none 0 0] 37))
                rw [hu14] at HKP
                have dSAgb : DisA X1 FM.length gb := SA.out.dis (by rw [← hgb]; exact Nat.le_refl _)
                replace SA := Lib.hid (SA.out.alloc (.cells #[.int .i64 0, .string ⟨#[]⟩, .int .i64 0, .slice none 0 0, .string ⟨#[]⟩, .int .i64 0, .slice none 0 0] 37))
                rw [hu14] at SA
                have dKAgb : DisA D1 q1 gb := KA.out.dis (by rw [← hgb]; exact Nat.le_refl _)
                replace KA := Lib.hid (KA.out.alloc (.cells #[.int .i64 0, .string ⟨#[]⟩, .int .i64 0, .slice none 0 0, .string ⟨#[]⟩, .int .i64 0, .slice none 0 0] 37))
                rw [hu14] at KA
                have dSBgb : DisA X2 FM.length gb := SB.out.dis (by rw [← hgb]; exact Nat.le_refl _)
                replace SB := Lib.hid (SB.out.alloc (.cells #[.int .i64 0, .string ⟨#[]⟩, .int .i64 0, .slice none 0 0, .string ⟨#[]⟩, .int .i64 0, .slice none 0 0] 37))
                rw [hu14] at SB
                have nbgb : w.heap.size ≤ gb := (by rw [← hgb]; exact HB.out.size)
                replace HB : Hid (Below w.heap.size w u14) := (by show Below _ _ _; rw [← hu14]; exact HB.out.alloc HB.out.size _)
                clear hu14 hgb
                refine hK.out _ _ (⟨(cel7 ZS.out).1, (cel7 ZS.out).2.1, (cel7 ZS.out).2.2.1, (cel7 ZS.out).2.2.2.1, (cel7 ZS.out).2.2.2.2.1, (cel7 ZS.out).2.2.2.2.2.1, (cel7 ZS.out).2.2.2.2.2.2, (cel5r ZP.out).1, (cel5r ZP.out).2.1, (cel5r ZP.out).2.2.1, (cel5r ZP.out).2.2.2.1, (cel5r ZP.out).2.2.2.2⟩) (fun hHeld => ?_)
                clear hK
                try simp only [Act.put, List.setIfInBounds_toArray, List.set_cons_zero, List.set_cons_succ]
                refine wpAnyH_ready (rs := [10]) (by kernel_rfl) (by simp) (AllReadyH.cons rfl (fun K hK => ?_) AllReadyH.nil)
                refine step_store_row rfl _ _ _ rfl ga #[.int .i64 sc, .string sr, .int .i64 sv, .slice X1 FM.length e1, .string sb, .int .i64 now, .slice D1 q1 k1] rfl rfl 37 #[.int .i64 0, .string ⟨#[]⟩, .int .i64 0, .slice none 0 0, .string ⟨#[]⟩, .int .i64 0, .slice none 0 0] Tga.out (by kernel_rfl) rfl (by simp [Value.oneCell']) ?_
                obtain ⟨u15, hu15⟩ : ∃ W, u14.setRow ga #[.int .i64 sc, .string sr, .int .i64 sv, .slice X1 FM.length e1, .string sb, .int .i64 now, .slice D1 q1 k1] = W := ⟨_, rfl⟩
                rw [hu15]
                replace ZS : Hid (u15.heap[w.heap.size]? = some (.cells #[.int .i64 sc, .string sr, .int .i64 sv, .slice A0 f.length c0, .string sb, .int .i64 st, .slice B0 n0 m0] 37 (0, 0))) := (by show _ = _; rw [← hu15, setRow_other _ _ _ _ (by omega)]; exact ZS.out)
                replace ZP : Hid (u15.heap[w.heap.size + 1]? = some (.cells #[.int .i64 pc, .string pr, .int .i64 pv, .slice A1 g.length c1, .string pb] 26 (0, 0))) := (by show _ = _; rw [← hu15, setRow_other _ _ _ _ (by omega)]; exact ZP.out)
                replace Tgb : Hid (u15.heap[gb]? = some (.cells #[.int .i64 0, .string ⟨#[]⟩, .int .i64 0, .slice none 0 0, .string ⟨#[]⟩, .int .i64 0, .slice none 0 0] 37 (0, 0))) := (by show _ = _; rw [← hu15, setRow_other _ _ _ _ (by omega)]; exact Tgb.out)
                replace HKP := Lib.hid (HKP.out.setRowD dHKPga #[.int .i64 sc, .string sr, .int .i64 sv, .slice X1 FM.length e1, .string sb, .int .i64 now, .slice D1 q1 k1])
                rw [hu15] at HKP
                replace SA := Lib.hid (SA.out.setRowD dSAga #[.int .i64 sc, .string sr, .int .i64 sv, .slice X1 FM.length e1, .string sb, .int .i64 now, .slice D1 q1 k1])
                rw [hu15] at SA
                replace KA := Lib.hid (KA.out.setRowD dKAga #[.int .i64 sc, .string sr, .int .i64 sv, .slice X1 FM.length e1, .string sb, .int .i64 now, .slice D1 q1 k1])
                rw [hu15] at KA
                replace SB := Lib.hid (SB.out.setRowD dSBga #[.int .i64 sc, .string sr, .int .i64 sv, .slice X1 FM.length e1, .string sb, .int .i64 now, .slice D1 q1 k1])
                rw [hu15] at SB
                replace Tga : Hid (u15.heap[ga]? = some (.cells #[.int .i64 sc, .string sr, .int .i64 sv, .slice X1 FM.length e1, .string sb, .int .i64 now, .slice D1 q1 k1] 37 (0, 0))) := (by show _ = _; rw [← hu15]; exact setRow_heap _ _ _ _ _ _ Tga.out)
                replace HB : Hid (Below w.heap.size w u15) := (by show Below _ _ _; rw [← hu15]; exact below_setRow HB.out nbga _)
                clear hu15
                refine hK.out _ _ (⟨(cel7 ZS.out).1, (cel7 ZS.out).2.1, (cel7 ZS.out).2.2.1, (cel7 ZS.out).2.2.2.1, (cel7 ZS.out).2.2.2.2.1, (cel7 ZS.out).2.2.2.2.2.1, (cel7 ZS.out).2.2.2.2.2.2, (cel5r ZP.out).1, (cel5r ZP.out).2.1, (cel5r ZP.out).2.2.1, (cel5r ZP.out).2.2.2.1, (cel5r ZP.out).2.2.2.2⟩) (fun hHeld => ?_)
                clear hK
                try simp only [Act.put, List.setIfInBounds_toArray, List.set_cons_zero, List.set_cons_succ]
                refine wpAnyH_ready (rs := [11]) (by kernel_rfl) (by simp) (AllReadyH.cons rfl (fun K hK => ?_) AllReadyH.nil)
                refine step_store_row rfl _ _ _ rfl gb #[.int .i64 sc, .string sr, .int .i64 sv, .slice X2 FM.length e2, .string sb, .int .i64 now, .slice B0 n0 m0] rfl rfl 37 #[.int .i64 0, .string ⟨#[]⟩, .int .i64 0, .slice none 0 0, .string ⟨#[]⟩, .int .i64 0, .slice none 0 0] Tgb.out (by kernel_rfl) rfl (by simp [Value.oneCell']) ?_
                obtain ⟨u16, hu16⟩ : ∃ W, u15.setRow gb #[.int .i64 sc, .string sr, .int .i64 sv, .slice X2 FM.length e2, .string sb, .int .i64 now, .slice B0 n0 m0] = W := ⟨_, rfl⟩
                rw [hu16]
                replace ZS : Hid (u16.heap[w.heap.size]? = some (.cells #[.int .i64 sc, .string sr, .int .i64 sv, .slice A0 f.length c0, .string sb, .int .i64 st, .slice B0 n0 m0] 37 (0, 0))) := (by show _ = _; rw [← hu16, setRow_other _ _ _ _ (by omega)]; exact ZS.out)
                replace ZP : Hid (u16.heap[w.heap.size + 1]? = some (.cells #[.int .i64 pc, .string pr, .int .i64 pv, .slice A1 g.length c1, .string pb] 26 (0, 0))) := (by show _ = _; rw [← hu16, setRow_other _ _ _ _ (by omega)]; exact ZP.out)
                replace Tga : Hid (u16.heap[ga]? = some (.cells #[.int .i64 sc, .string sr, .int .i64 sv, .slice X1 FM.length e1, .string sb, .int .i64 now, .slice D1 q1 k1] 37 (0, 0))) := (by show _ = _; rw [← hu16, setRow_other _ _ _ _ (by omega)]; exact Tga.out)
                replace HKP := Lib.hid (HKP.out.setRowD dHKPgb #[.int .i64 sc, .string sr, .int .i64 sv, .slice X2 FM.length e2, .string sb, .int .i64 now, .slice B0 n0 m0])
                rw [hu16] at HKP
                replace SA := Lib.hid (SA.out.setRowD dSAgb #[.int .i64 sc, .string sr, .int .i64 sv, .slice X2 FM.length e2, .string sb, .int .i64 now, .slice B0 n0 m0])
                rw [hu16] at SA
                replace KA := Lib.hid (KA.out.setRowD dKAgb #[.int .i64 sc, .string sr, .int .i64 sv, .slice X2 FM.length e2, .string sb, .int .i64 now, .slice B0 n0 m0])
                rw [hu16] at KA
                replace SB := Lib.hid (SB.out.setRowD dSBgb #[.int .i64 sc, .string sr, .int .i64 sv, .slice X2 FM.length e2, .string sb, .int .i64 now, .slice B0 n0 m0])
                rw [hu16] at SB
                replace Tgb : Hid (u16.heap[gb]? = some (.cells #[.int .i64 sc, .string sr, .int .i64 sv, .slice X2 FM.length e2, .string sb, .int .i64 now, .slice B0 n0 m0] 37 (0, 0))) := (by show _ = _; rw [← hu16]; exact setRow_heap _ _ _ _ _ _ Tgb.out)
                replace HB : Hid (Below w.heap.size w u16) := (by show Below _ _ _; rw [← hu16]; exact below_setRow HB.out nbgb _)
                clear hu16
                refine hK.out _ _ (⟨(cel7 ZS.out).1, (cel7 ZS.out).2.1, (cel7 ZS.out).2.2.1, (cel7 ZS.out).2.2.2.1, (cel7 ZS.out).2.2.2.2.1, (cel7 ZS.out).2.2.2.2.2.1, (cel7 ZS.out).2.2.2.2.2.2, (cel5r ZP.out).1, (cel5r ZP.out).2.1, (cel5r ZP.out).2.2.1, (cel5r ZP.out).2.2.2.1, (cel5r ZP.out).2.2.2.2⟩) (fun hHeld => ?_)
                clear hK
                try simp only [Act.put, List.setIfInBounds_toArray, List.set_cons_zero, List.set_cons_succ]
                refine wpAnyH_done (by kernel_rfl) ?_ _
                go_wp2_with fail
                go_meet
                exact ⟨ga, gb, X1, e1, D1, q1, k1, X2, e2, rfl, rfl, KA.out.len.symm.trans HKL.out, Tga.out, Tgb.out, ZS.out, ZP.out, SA.out, SB.out, KA.out, HKP.out, HB.out⟩
              · go_simp
                obtain ⟨u17, hu17⟩ : ∃ W, u12.alloc (.cells #[.int .i64 0, .string ⟨#[]⟩, .int .i64 0, .slice none 0 0, .string ⟨#[]⟩, .int .i64 0, .slice none 0 0] 37) = W := ⟨_, rfl⟩
                obtain ⟨gb, hgb⟩ : ∃ g, u12.heap.size = g := ⟨_, rfl⟩
                rw [hu17, hgb]
                have nZSgb : w.heap.size < gb := (by rw [← hgb]; exact (Array.getElem?_eq_some_iff.1 ZS.out).1)
                have nZPgb : w.heap.size + 1 < gb := (by rw [← hgb]; exact (Array.getElem?_eq_some_iff.1 ZP.out).1)
                have nTgagb : ga < gb := (by rw [← hgb]; exact (Array.getElem?_eq_some_iff.1 Tga.out).1)
                replace ZS : Hid (u17.heap[w.heap.size]? = some (.cells #[.int .i64 sc, .string sr, .int .i64 sv, .slice A0 f.length c0, .string sb, .int .i64 st, .slice B0 n0 m0] 37 (0, 0))) := (by show _ = _; rw [← hu17]; exact zero_more ZS.out)
                replace ZP : Hid (u17.heap[w.heap.size + 1]? = some (.cells #[.int .i64 pc, .string pr, .int .i64 pv, .slice A1 g.length c1, .string pb] 26 (0, 0))) := (by show _ = _; rw [← hu17]; exact zero_more ZP.out)
                replace Tga : Hid (u17.heap[ga]? = some (.cells #[.int .i64 0, .string ⟨#[]⟩, .int .i64 0, .slice none 0 0, .string ⟨#[]⟩, .int .i64 0, .slice none 0 0] 37 (0, 0))) := (by show _ = _; rw [← hu17]; exact zero_more Tga.out)
                have Tgb : Hid (u17.heap[gb]? = some (.cells #[.int .i64 0, .string ⟨#[]⟩, .int .i64 0, .slice none 0 0, .string ⟨#[]⟩, .int .i64 0, .slice none 0 0] 37 (0, 0))) := (by show _ = _; rw [← hu17, ← hgb]; exact heap_alloc_new u12 _)
                have dHKPgb : DisA B0 n0 gb := HKP.out.dis (by rw [← hgb]; exact Nat.le_refl _)
                replace HKP := Lib.hid (HKP.out.alloc (.cells #[.int .i64 0, .string ⟨#[]⟩, .int .i64 0, .slice none 0 0, .string ⟨#[]⟩, .int .i64 0, .slice none 0 0] 37))
                rw [hu17] at HKP
                have dSAgb : DisA X1 FM.length gb := SA.out.dis (by rw [← hgb]; exact Nat.le_refl _)
                replace SA := Lib.hid (SA.out.alloc (.cells #[.int .i64 0, .string ⟨#[]⟩, .int .i64 0, .slice none 0 0, .string ⟨#[]⟩, .int .i64 0, .slice none 0 0] 37))
                rw [hu17] at SA
                have dKAgb : DisA D1 q1 gb := KA.out.dis (by rw [← hgb]; exact Nat.le_refl _)
                replace KA := Lib.hid (KA.out.alloc (.cells #[.int .i64 0, .string ⟨#[]⟩, .int .i64 0, .slice none 0 0, .string ⟨#[]⟩, .int .i64 0, .slice none 0 0] 37))
                rw [hu17] at KA
                have nbgb : w.heap.size ≤ gb := (by rw [← hgb]; exact HB.out.size)
                replace HB : Hid (Below w.heap.size w u17) := (by show Below _ _ _; rw [← hu17]; exact HB.out.alloc HB.out.size _)
                clear hu17 hgb
                refine hK.out _ _ (⟨(cel7 ZS.out).1, (cel7 ZS.out).2.1, (cel7 ZS.out).2.2.1, (cel7 ZS.out).2.2.2.1, (cel7 ZS.out).2.2.2.2.1, (cel7 ZS.out).2.2.2.2.2.1, (cel7 ZS.out).2.2.2.2.2.2, (cel5r ZP.out).1, (cel5r ZP.out).2.1, (cel5r ZP.out).2.2.1, (cel5r ZP.out).2.2.2.1, (cel5r ZP.out).2.2.2.2⟩) (fun hHeld => ?_)
                clear hK
                try simp only [Act.put, List.setIfInBounds_toArray, List.set_cons_zero, List.set_cons_succ]
                refine wpAnyH_ready (rs := [7]) (by kernel_rfl) (by simp) (AllReadyH.cons rfl (fun K hK => ?_) AllReadyH.nil)
                have hxga : ga < u17.heap.size := (Array.getElem?_eq_some_iff.1 Tga.out).1
                have hxgb : gb < u17.heap.size := (Array.getElem?_eq_some_iff.1 Tgb.out).1
                go_simp
                go_at_call 20
                refine (K2.out _ _ HB.out).mono ?_
                rintro e u18 ⟨X2, e2, rfl, hSB, fSB, hb⟩
                replace ZS := Lib.hid (zero_still hb ZS.out)
                replace ZP := Lib.hid (zero_still hb ZP.out)
                replace Tga := Lib.hid (zero_still hb Tga.out)
                replace Tgb := Lib.hid (zero_still hb Tgb.out)
                replace HKP := Lib.hid (HKP.out.below hb)
                replace SA := Lib.hid (SA.out.below hb)
                replace KA := Lib.hid (KA.out.below hb)
                have dSBga : DisA X2 FM.length ga := fSB.dis _ hxga
                have dSBgb : DisA X2 FM.length gb := fSB.dis _ hxgb
                have SB := Lib.hid hSB
                clear hSB
                replace HB := Lib.hid (below_then HB.out hb)
                clear hb
                try go_wp2_with fail
                refine hK.out _ _ (⟨(cel7 ZS.out).1, (cel7 ZS.out).2.1, (cel7 ZS.out).2.2.1, (cel7 ZS.out).2.2.2.1, (cel7 ZS.out).2.2.2.2.1, (cel7 ZS.out).2.2.2.2.2.1, (cel7 ZS.out).2.2.2.2.2.2, (cel5r ZP.out).1, (cel5r ZP.out).2.1, (cel5r ZP.out).2.2.1, (cel5r ZP.out).2.2.2.1, (cel5r ZP.out).2.2.2.2⟩) (fun hHeld => ?_)
                clear hK
                try simp only [Act.put, List.setIfInBounds_toArray, List.set_cons_zero, List.set_cons_succ]
                refine wpAnyH_ready (rs := [10]) (by kernel_rfl) (by simp) (AllReadyH.cons rfl (fun K hK => ?_) AllReadyH.nil)
                refine step_store_row rfl _ _ _ rfl ga #[.int .i64 sc, .string sr, .int .i64 sv, .slice X1 FM.length e1, .string sb, .int .i64 now, .slice D1 q1 k1] rfl rfl 37 #[.int .i64 0, .string ⟨#[]⟩, .int .i64 0, .slice none 0 0, .string ⟨#[]⟩, .int .i64 0, .slice none 0 0] Tga.out (by kernel_rfl) rfl (by simp [Value.oneCell']) ?_
                obtain ⟨u19, hu19⟩ : ∃ W, u18.setRow ga #[.int .i64 sc, .string sr, .int .i64 sv, .slice X1 FM.length e1, .string sb, .int .i64 now, .slice D1 q1 k1] = W := ⟨_, rfl⟩
                rw [hu19]
                replace ZS : Hid (u19.heap[w.heap.size]? = some (.cells #[.int .i64 sc, .string sr, .int .i64 sv, .slice A0 f.length c0, .string sb, .int .i64 st, .slice B0 n0 m0] 37 (0, 0))) := (by show _ = _; rw [← hu19, setRow_other _ _ _ _ (by omega)]; exact ZS.out)
                replace ZP : Hid (u19.heap[w.heap.size + 1]? = some (.cells #[.int .i64 pc, .string pr, .int .i64 pv, .slice A1 g.length c1, .string pb] 26 (0, 0))) := (by show _ = _; rw [← hu19, setRow_other _ _ _ _ (by omega)]; exact ZP.out)
                replace Tgb : Hid (u19.heap[gb]? = some (.cells #[.int .i64 0, .string ⟨#[]⟩, .int .i64 0, .slice none 0 0, .string ⟨#[]⟩, .int .i64 0, .slice none 0 0] 37 (0, 0))) := (by show _ = _; rw [← hu19, setRow_other _ _ _ _ (by omega)]; exact Tgb.out)
                replace HKP := Lib.hid (HKP.out.setRowD dHKPga #[.int .i64 sc, .string sr, .int .i64 sv, .slice X1 FM.length e1, .string sb, .int .i64 now, .slice D1 q1 k1])
                rw [hu19] at HKP
                replace SA := Lib.hid (SA.out.setRowD dSAga #[.int .i64 sc, .string sr, .int .i64 sv, .slice X1 FM.length e1, .string sb, .int .i64 now, .slice D1 q1 k1])
                rw [hu19] at SA
                replace KA := Lib.hid (KA.out.setRowD dKAga #[.int .i64 sc, .string sr, .int .i64 sv, .slice X1 FM.length e1, .string sb, .int .i64 now, .slice D1 q1 k1])
                rw [hu19] at KA
                replace SB := Lib.hid (SB.out.setRowD dSBga #[.int .i64 sc, .string sr, .int .i64 sv, .slice X1 FM.length e1, .string sb, .int .i64 now, .slice D1 q1 k1])
                rw [hu19] at SB
                replace Tga : Hid (u19.heap[ga]? = some (.cells #[.int .i64 sc, .string sr, .int .i64 sv, .slice X1 FM.length e1, .string sb, .int .i64 now, .slice D1 q1 k1] 37 (0, 0))) := (by show _ = _; rw [← hu19]; exact setRow_heap _ _ _ _ _ _ Tga.out)
                replace HB : Hid (Below w.heap.size w u19) := (by show Below _ _ _; rw [← hu19]; exact below_setRow HB.out nbga _)
                clear hu19
                refine hK.out _ _ (⟨(cel7 ZS.out).1, (cel7 ZS.out).2.1, (cel7 ZS.out).2.2.1, (cel7 ZS.out).2.2.2.1, (cel7 ZS.out).2.2.2.2.1, (cel7 ZS.out).2.2.2.2.2.1, (cel7 ZS.out).2.2.2.2.2.2, (cel5r ZP.out).1, (cel5r ZP.out).2.1, (cel5r ZP.out).2.2.1, (cel5r ZP.out).2.2.2.1, (cel5r ZP.out).2.2.2.2⟩) (fun hHeld => ?_)
                clear hK
                try simp only [Act.put, List.setIfInBounds_toArray, List.set_cons_zero, List.set_cons_succ]
                refine wpAnyH_ready (rs := [11]) (by kernel_rfl) (by simp) (AllReadyH.cons rfl (fun K hK => ?_) AllReadyH.nil)
                refine step_store_row rfl _ _ _ rfl gb #[.int .i64 sc, .string sr, .int .i64 sv, .slice X2 FM.length e2, .string sb, .int .i64 now, .slice B0 n0 m0] rfl rfl 37 #[.int .i64 0, .string ⟨#[]⟩, .int .i64 0, .slice none 0 0, .string ⟨#[]⟩, .int .i64 0, .slice none 0 0] Tgb.out (by kernel_rfl) rfl (by simp [Value.oneCell']) ?_
                obtain ⟨u20, hu20⟩ : ∃ W, u19.setRow gb #[.int .i64 sc, .string sr, .int .i64 sv, .slice X2 FM.length e2, .string sb, .int .i64 now, .slice B0 n0 m0] = W := ⟨_, rfl⟩
                rw [hu20]
                replace ZS : Hid (u20.heap[w.heap.size]? = some (.cells #[.int .i64 sc, .string sr, .int .i64 sv, .slice A0 f.length c0, .string sb, .int .i64 st, .slice B0 n0 m0] 37 (0, 0))) := (by show _ = _; rw [← hu20, setRow_other _ _ _ _ (by omega)]; exact ZS.out)
                replace ZP : Hid (u20.heap[w.heap.size + 1]? = some (.cells #[.int .i64 pc, .string pr, .int .i64 pv, .slice A1 g.length c1, .string pb] 26 (0, 0))) := (by show _ = _; rw [← hu20, setRow_other _ _ _ _ (by omega)]; exact ZP.out)
                replace Tga : Hid (u20.heap[ga]? = some (.cells #[.int .i64 sc, .string sr, .int .i64 sv, .slice X1 FM.length e1, .string sb, .int .i64 now, .slice D1 q1 k1] 37 (0, 0))) := (by show _ = _; rw [← hu20, setRow_other _ _ _ _ (by omega)]; exact Tga.out)
                replace HKP := Lib.hid (HKP.out.setRowD dHKPgb #[.int .i64 sc, .string sr, .int .i64 sv, .slice X2 FM.length e2, .string sb, .int .i64 now, .slice B0 n0 m0])
                rw [hu20] at HKP
                replace SA := Lib.hid (SA.out.setRowD dSAgb #[.int .i64 sc, .string sr, .int .i64 sv, .slice X2 FM.length e2, .string sb, .int .i64 now, .slice B0 n0 m0])
                rw [hu20] at SA
                replace KA := Lib.hid (KA.out.setRowD dKAgb #[.int .i64 sc, .string sr, .int .i64 sv, .slice X2 FM.length e2, .string sb, .int .i64 now, .slice B0 n0 m0])
                rw [hu20] at KA
                replace SB := Lib.hid (SB.out.setRowD dSBgb #[.int .i64 sc, .string sr, .int .i64 sv, .slice X2 FM.length e2, .string sb, .int .i64 now, .slice B0 n0 m0])
                rw [hu20] at SB
                replace Tgb : Hid (u20.heap[gb]? = some (.cells #[.int .i64 sc, .string sr, .int .i64 sv, .slice X2 FM.length e2, .string sb, .int .i64 now, .slice B0 n0 m0] 37 (0, 0))) := (by show _ = _; rw [← hu20]; exact setRow_heap _ _ _ _ _ _ Tgb.out)
                replace HB : Hid (Below w.heap.size w u20) := (by show Below _ _ _; rw [← hu20]; exact below_setRow HB.out nbgb _)
                clear hu20
                refine hK.out _ _ (⟨(cel7 ZS.out).1, (cel7 ZS.out).2.1, (cel7 ZS.out).2.2.1, (cel7 ZS.out).2.2.2.1, (cel7 ZS.out).2.2.2.2.1, (cel7 ZS.out).2.2.2.2.2.1, (cel7 ZS.out).2.2.2.2.2.2, (cel5r ZP.out).1, (cel5r ZP.out).2.1, (cel5r ZP.out).2.2.1, (cel5r ZP.out).2.2.2.1, (cel5r ZP.out).2.2.2.2⟩) (fun hHeld => ?_)
                clear hK
                try simp only [Act.put, List.setIfInBounds_toArray, List.set_cons_zero, List.set_cons_succ]
                refine wpAnyH_done (by kernel_rfl) ?_ _
                go_wp2_with fail
                go_meet
                exact ⟨ga, gb, X1, e1, D1, q1, k1, X2, e2, rfl, rfl, KA.out.len.symm.trans HKL.out, Tga.out, Tgb.out, ZS.out, ZP.out, SA.out, SB.out, KA.out, HKP.out, HB.out⟩
            · go_simp
              obtain ⟨u21, hu21⟩ : ∃ W, u2.alloc (.cells #[.int .i64 0, .string ⟨#[]⟩, .int .i64 0, .slice none 0 0, .string ⟨#[]⟩, .int .i64 0, .slice none 0 0] 37) = W := ⟨_, rfl⟩
              obtain ⟨gb, hgb⟩ : ∃ g, u2.heap.size = g := ⟨_, rfl⟩
              rw [hu21, hgb]
              have nZSgb : w.heap.size < gb := (by rw [← hgb]; exact (Array.getElem?_eq_some_iff.1 ZS.out).1)
              have nZPgb : w.heap.size + 1 < gb := (by rw [← hgb]; exact (Array.getElem?_eq_some_iff.1 ZP.out).1)
              replace ZS : Hid (u21.heap[w.heap.size]? = some (.cells #[.int .i64 sc, .string sr, .int .i64 sv, .slice A0 f.length c0, .string sb, .int .i64 st, .slice B0 n0 m0] 37 (0, 0))) := (by show _ = _; rw [← hu21]; exact zero_more ZS.out)
              replace ZP : Hid (u21.heap[w.heap.size + 1]? = some (.cells #[.int .i64 pc, .string pr, .int .i64 pv, .slice A1 g.length c1, .string pb] 26 (0, 0))) := (by show _ = _; rw [← hu21]; exact zero_more ZP.out)
              have Tgb : Hid (u21.heap[gb]? = some (.cells #[.int .i64 0, .string ⟨#[]⟩, .int .i64 0, .slice none 0 0, .string ⟨#[]⟩, .int .i64 0, .slice none 0 0] 37 (0, 0))) := (by show _ = _; rw [← hu21, ← hgb]; exact heap_alloc_new u2 _)
              have dHKPgb : DisA B0 n0 gb := HKP.out.dis (by rw [← hgb]; exact Nat.le_refl _)
              replace HKP := Lib.hid (HKP.out.alloc (.cells #[.int .i64 0, .string ⟨#[]⟩, .int .i64 0, .slice none 0 0, .string ⟨#[]⟩, .int .i64 0, .slice none 0 0] 37))
              rw [hu21] at HKP
              have dSAgb : DisA X1 FM.length gb := SA.out.dis (by rw [← hgb]; exact Nat.le_refl _)
              replace SA := Lib.hid (SA.out.alloc (.cells #[.int .i64 0, .string ⟨#[]⟩, .int .i64 0, .slice none 0 0, .string ⟨#[]⟩, .int .i64 0, .slice none 0 0] 37))
              rw [hu21] at SA
              have dKAgb : DisA D1 q1 gb := KA.out.dis (by rw [← hgb]; exact Nat.le_refl _)
              replace KA := Lib.hid (KA.out.alloc (.cells #[.int .i64 0, .string ⟨#[]⟩, .int .i64 0, .slice none 0 0, .string ⟨#[]⟩, .int .i64 0, .slice none 0 0] 37))
              rw [hu21] at KA
              have nbgb : w.heap.size ≤ gb := (by rw [← hgb]; exact HB.out.size)
              replace HB : Hid (Below w.heap.size w u21) := (by show Below _ _ _; rw [← hu21]; exact HB.out.alloc HB.out.size _)
              clear hu21 hgb
              refine hK.out _ _ (⟨(cel7 ZS.out).1, (cel7 ZS.out).2.1, (cel7 ZS.out).2.2.1, (cel7 ZS.out).2.2.2.1, (cel7 ZS.out).2.2.2.2.1, (cel7 ZS.out).2.2.2.2.2.1, (cel7 ZS.out).2.2.2.2.2.2, (cel5r ZP.out).1, (cel5r ZP.out).2.1, (cel5r ZP.out).2.2.1, (cel5r ZP.out).2.2.2.1, (cel5r ZP.out).2.2.2.2⟩) (fun hHeld => ?_)
              clear hK
              try simp only [Act.put, List.setIfInBounds_toArray, List.set_cons_zero, List.set_cons_succ]
              refine wpAnyH_ready (rs := [7, 8]) (by kernel_rfl) (by simp) (AllReadyH.cons rfl (fun K hK => ?_) (AllReadyH.cons rfl (fun K hK => ?_) AllReadyH.nil))
              · have hxgb : gb < u21.heap.size := (Array.getElem?_eq_some_iff.1 Tgb.out).1
                go_simp
                go_at_call 20
                refine (K2.out _ _ HB.out).mono ?_
                rintro e u22 ⟨X2, e2, rfl, hSB, fSB, hb⟩
                replace ZS := Lib.hid (zero_still hb ZS.out)
                replace ZP := Lib.hid (zero_still hb ZP.out)
                replace Tgb := Lib.hid (zero_still hb Tgb.out)
                replace HKP := Lib.hid (HKP.out.below hb)
                replace SA := Lib.hid (SA.out.below hb)
                replace KA := Lib.hid (KA.out.below hb)
                have dSBgb : DisA X2 FM.length gb := fSB.dis _ hxgb
                have SB := Lib.hid hSB
                clear hSB
                replace HB := Lib.hid (below_then HB.out hb)
                clear hb
                try go_wp2_with fail
                refine hK.out _ _ (⟨(cel7 ZS.out).1, (cel7 ZS.out).2.1, (cel7 ZS.out).2.2.1, (cel7 ZS.out).2.2.2.1, (cel7 ZS.out).2.2.2.2.1, (cel7 ZS.out).2.2.2.2.2.1, (cel7 ZS.out).2.2.2.2.2.2, (cel5r ZP.out).1, (cel5r ZP.out).2.1, (cel5r ZP.out).2.2.1, (cel5r ZP.out).2.2.2.1, (cel5r ZP.out).2.2.2.2⟩) (fun hHeld => ?_)
                clear hK
                try simp only [Act.put, List.setIfInBounds_toArray, List.set_cons_zero, List.set_cons_succ]
                refine wpAnyH_ready (rs := [8]) (by kernel_rfl) (by simp) (AllReadyH.cons rfl (fun K hK => ?_) AllReadyH.nil)
                go_simp
                obtain ⟨u23, hu23⟩ : ∃ W, u22.alloc (.cells #[.int .i64 0, .string ⟨#[]⟩, .int .i64 0, .slice none 0 0, .string ⟨#[]⟩, .int .i64 0, .slice none 0 0] 37) = W := ⟨_, rfl⟩
                obtain ⟨ga, hga⟩ : ∃ g, u22.heap.size = g := ⟨_, rfl⟩
                rw [hu23, hga]
                have nZSga : w.heap.size < ga := (by rw [← hga]; exact (Array.getElem?_eq_some_iff.1 ZS.out).1)
                have nZPga : w.heap.size + 1 < ga := (by rw [← hga]; exact (Array.getElem?_eq_some_iff.1 ZP.out).1)
                have nTgbga : gb < ga := (by rw [← hga]; exact (Array.getElem?_eq_some_iff.1 Tgb.out).1)
                replace ZS : Hid (u23.heap[w.heap.size]? = some (.cells #[.int .i64 sc, .string sr, .int .i64 sv, .slice A0 f.length c0, .string sb, .int .i64 st, .slice B0 n0 m0] 37 (0, 0))) := (by show _ = _; rw [← hu23]; exact zero_more ZS.out)
                replace ZP : Hid (u23.heap[w.heap.size + 1]? = some (.cells #[.int .i64 pc, .string pr, .int .i64 pv, .slice A1 g.length c1, .string pb] 26 (0, 0))) := (by show _ = _; rw [← hu23]; exact zero_more ZP.out)
                replace Tgb : Hid (u23.heap[gb]? = some (.cells #[.int .i64 0, .string ⟨#[]⟩, .int .i64 0, .slice none 0 0, .string ⟨#[]⟩, .int .i64 0, .slice none 0 0] 37 (0, 0))) := (by show _ = _; rw [← hu23]; exact zero_more Tgb.out)
                have Tga : Hid (u23.heap[ga]? = some (.cells #[.int .i64 0, .string ⟨#[]⟩, .int .i64 0, .slice none 0 0, .string ⟨#[]⟩, .int .i64 0, .slice none 0 0] 37 (0, 0))) := (by show _ = _; rw [← hu23, ← hga]; exact heap_alloc_new u22 _)
                have dHKPga : DisA B0 n0 ga := HKP.out.dis (by rw [← hga]; exact Nat.le_refl _)
                replace HKP := Lib.hid (HKP.out.alloc (.cells #[.int .i64 0, .string ⟨#[]⟩, .int .i64 0, .slice none 0 0, .string ⟨#[]⟩, .int .i64 0, .slice none 0 0] 37))
                rw [hu23] at HKP
                have dSAga : DisA X1 FM.length ga := SA.out.dis (by rw [← hga]; exact Nat.le_refl _)
                replace SA := Lib.hid (SA.out.alloc (.cells #[.int .i64 0, .string ⟨#[]⟩, .int .i64 0, .slice none 0 0, .string ⟨#[]⟩, .int .i64 0, .slice none 0 0] 37))
                rw [hu23] at SA
                have dKAga : DisA D1 q1 ga := KA.out.dis (by rw [← hga]; exact Nat.le_refl _)
                replace KA := Lib.hid (KA.out.alloc (.cells #[.int .i64 0, .string ⟨#[]⟩, .int .i64 0, .slice none 0 0, .string ⟨#[]⟩, .int .i64 0, .slice none 0 0] 37))
                rw [hu23] at KA
                have dSBga : DisA X2 FM.length ga := SB.out.dis (by rw [← hga]; exact Nat.le_refl _)
                replace SB := Lib.hid (SB.out.alloc (.cells #[.int .i64 0, .string ⟨#[]⟩, .int .i64 0, .slice none 0 0, .string ⟨#[]⟩, .int .i64 0, .slice none 0 0] 37))
                rw [hu23] at SB
                have nbga : w.heap.size ≤ ga := (by rw [← hga]; exact HB.out.size)
                replace HB : Hid (Below w.heap.size w u23) := (by show Below _ _ _; rw [← hu23]; exact HB.out.alloc HB.out.size _)
                clear hu23 hga
                refine hK.out _ _ (⟨(cel7 ZS.out).1, (cel7 ZS.out).2.1, (cel7 ZS.out).2.2.1, (cel7 ZS.out).2.2.2.1, (cel7 ZS.out).2.2.2.2.1, (cel7 ZS.out).2.2.2.2.2.1, (cel7 ZS.out).2.2.2.2.2.2, (cel5r ZP.out).1, (cel5r ZP.out).2.1, (cel5r ZP.out).2.2.1, (cel5r ZP.out).2.2.2.1, (cel5r ZP.out).2.2.2.2⟩) (fun hHeld => ?_)
                clear hK
                try simp only [Act.put, List.setIfInBounds_toArray, List.set_cons_zero, List.set_cons_succ]
                refine wpAnyH_ready (rs := [10]) (by kernel_rfl) (by simp) (AllReadyH.cons rfl (fun K hK => ?_) AllReadyH.nil)
                refine step_store_row rfl _ _ _ rfl ga #[.int .i64 sc, .string sr, .int .i64 sv, .slice X1 FM.length e1, .string sb, .int .i64 now, .slice D1 q1 k1] rfl rfl 37 #[.int .i64 0, .string ⟨#[]⟩, .int .i64 0, .slice none 0 0, .string ⟨#[]⟩, .int .i64 0, .slice none 0 0] Tga.out (by kernel_rfl) rfl (by simp [Value.oneCell']) ?_
                obtain ⟨u24, hu24⟩ : ∃ W, u23.setRow ga #[.int .i64 sc, .string sr, .int .i64 sv, .slice X1 FM.length e1, .string sb, .int .i64 now, .slice D1 q1 k1] = W := ⟨_, rfl⟩
                rw [hu24]
                replace ZS : Hid (u24.heap[w.heap.size]? = some (.cells #[.int .i64 sc, .string sr, .int .i64 sv, .slice A0 f.length c0, .string sb, .int .i64 st, .slice B0 n0 m0] 37 (0, 0))) := (by show _ = _; rw [← hu24, setRow_other _ _ _ _ (by omega)]; exact ZS.out)
                replace ZP : Hid (u24.heap[w.heap.size + 1]? = some (.cells #[.int .i64 pc, .string pr, .int .i64 pv, .slice A1 g.length c1, .string pb] 26 (0, 0))) := (by show _ = _; rw [← hu24, setRow_other _ _ _ _ (by omega)]; exact ZP.out)
                replace Tgb : Hid (u24.heap[gb]? = some (.cells #[.int .i64 0, .string ⟨#[]⟩, .int .i64 0, .slice none 0 0, .string ⟨#[]⟩, .int .i64 0, .slice none 0 0] 37 (0, 0))) := (by show _ = _; rw [← hu24, setRow_other _ _ _ _ (by omega)]; exact Tgb.out)
                replace HKP := Lib.hid (HKP.out.setRowD dHKPga #[.int .i64 sc, .string sr, .int .i64 sv, .slice X1 FM.length e1, .string sb, .int .i64 now, .slice D1 q1 k1])
                rw [hu24] at HKP
                replace SA := Lib.hid (SA.out.setRowD dSAga #[.int .i64 sc, .string sr, .int .i64 sv, .slice X1 FM.length e1, .string sb, .int .i64 now, .slice D1 q1 k1])
                rw [hu24] at SA
                replace KA := Lib.hid (KA.out.setRowD dKAga #[.int .i64 sc, .string sr, .int .i64 sv, .slice X1 FM.length e1, .string sb, .int .i64 now, .slice D1 q1 k1])
                rw [hu24] at KA
                replace SB := Lib.hid (SB.out.setRowD dSBga #[.int .i64 sc, .string sr, .int .i64 sv, .slice X1 FM.length e1, .string sb, .int .i64 now, .slice D1 q1 k1])
                rw [hu24] at SB
                replace Tga : Hid (u24.heap[ga]? = some (.cells #[.int .i64 sc, .string sr, .int .i64 sv, .slice X1 FM.length e1, .string sb, .int .i64 now, .slice D1 q1 k1] 37 (0, 0))) := (by show _ = _; rw [← hu24]; exact setRow_heap _ _ _ _ _ _ Tga.out)
                replace HB : Hid (Below w.heap.size w u24) := (by show Below _ _ _; rw [← hu24]; exact below_setRow HB.out nbga _)
                clear hu24
                refine hK.out _ _ (⟨(cel7 ZS.out).1, (cel7 ZS.out).2.1, (cel7 ZS.out).2.2.1, (cel7 ZS.out).2.2.2.1, (cel7 ZS.out).2.2.2.2.1, (cel7 ZS.out).2.2.2.2.2.1, (cel7 ZS.out).2.2.2.2.2.2, (cel5r ZP.out).1, (cel5r ZP.out).2.1, (cel5r ZP.out).2.2.1, (cel5r ZP.out).2.2.2.1, (cel5r ZP.out).2.2.2.2⟩) (fun hHeld => ?_)
                clear hK
                try simp only [Act.put, List.setIfInBounds_toArray, List.set_cons_zero, List.set_cons_succ]
                refine wpAnyH_ready (rs := [11]) (by kernel_rfl) (by simp) (AllReadyH.cons rfl (fun K hK => ?_) AllReadyH.nil)
                refine step_store_row rfl _ _ _ rfl gb #[.int .i64 sc, .string sr, .int .i64 sv, .slice X2 FM.length e2, .string sb, .int .i64 now, .slice B0 n0 m0] rfl rfl 37 #[.int .i64 0, .string ⟨#[]⟩, .int .i64 0, .slice none 0 0, .string ⟨#[]⟩, .int .i64 0, .slice none 0 0] Tgb.out (by kernel_rfl) rfl (by simp [Value.oneCell']) ?_
                obtain ⟨u25, hu25⟩ : ∃ W, u24.setRow gb #[.int .i64 sc, .string sr, .int .i64 sv, .slice X2 FM.length e2, .string sb, .int .i64 now, .slice B0 n0 m0] = W := ⟨_, rfl⟩
                rw [hu25]
                replace ZS : Hid (u25.heap[w.heap.size]? = some (.cells #[.int .i64 sc, .string sr, .int .i64 sv, .slice A0 f.length c0, .string sb, .int .i64 st, .slice B0 n0 m0] 37 (0, 0))) := (by show _ = _; rw [← hu25, setRow_other _ _ _ _ (by omega)]; exact ZS.out)
                replace ZP : Hid (u25.heap[w.heap.size + 1]? = some (.cells #[.int .i64 pc, .string pr, .int .i64 pv, .slice A1 g.length c1, .string pb] 26 (0, 0))) := (by show _ = _; rw [← hu25, setRow_other _ _ _ _ (by omega)]; exact ZP.out)
                replace Tga : Hid (u25.heap[ga]? = some (.cells #[.int .i64 sc, .string sr, .int .i64 sv, .slice X1 FM.length e1, .string sb, .int .i64 now, .slice D1 q1 k1] 37 (0, 0))) := (by show _ = _; rw [← hu25, setRow_other _ _ _ _ (by omega)]; exact Tga.out)
                replace HKP := Lib.hid (HKP.out.setRowD dHKPgb #[.int .i64 sc, .string sr, .int .i64 sv, .slice X2 FM.length e2, .string sb, .int .i64 now, .slice B0 n0 m0])
                rw [hu25] at HKP
                replace SA := Lib.hid (SA.out.setRowD dSAgb #[.int .i64 sc, .string sr, .int .i64 sv, .slice X2 FM.length e2, .string sb, .int .i64 now, .slice B0 n0 m0])
                rw [hu25] at SA
                replace KA := Lib.hid (KA.out.setRowD dKAgb #[.int .i64 sc, .string sr, .int .i64 sv, .slice X2 FM.length e2, .string sb, .int .i64 now, .slice B0 n0 m0])
                rw [hu25] at KA
                replace SB := Lib.hid (SB.out.setRowD dSBgb #[.int .i64 sc, .string sr, .int .i64 sv, .slice X2 FM.length e2, .string sb, .int .i64 now, .slice B0 n0 m0])
                rw [hu25] at SB
                replace Tgb : Hid (u25.heap[gb]? = some (.cells #[.int .i64 sc, .string sr, .int .i64 sv, .slice X2 FM.length e2, .string sb, .int .i64 now, .slice B0 n0 m0] 37 (0, 0))) := (by show _ = _; rw [← hu25]; exact setRow_heap _ _ _ _ _ _ Tgb.out)
                replace HB : Hid (Below w.heap.size w u25) := (by show Below _ _ _; rw [← hu25]; exact below_setRow HB.out nbgb _)
                clear hu25
                refine hK.out _ _ (⟨(cel7 ZS.out).1, (cel7 ZS.out).2.1, (cel7 ZS.out).2.2.1, (cel7 ZS.out).2.2.2.1, (cel7 ZS.out).2.2.2.2.1, (cel7 ZS.out).2.2.2.2.2.1, (cel7 ZS.out).2.2.2.2.2.2, (cel5r ZP.out).1, (cel5r ZP.out).2.1, (cel5r ZP.out).2.2.1, (cel5r ZP.out).2.2.2.1, (cel5r ZP.out).2.2.2.2⟩) (fun hHeld => ?_)
                clear hK
                try simp only [Act.put, List.setIfInBounds_toArray, List.set_cons_zero, List.set_cons_succ]
                refine wpAnyH_done (by kernel_rfl) ?_ _
                go_wp2_with fail
                go_meet
                exact ⟨ga, gb, X1, e1, D1, q1, k1, X2, e2, rfl, rfl, KA.out.len.symm.trans HKL.out, Tga.out, Tgb.out, ZS.out, ZP.out, SA.out, SB.out, KA.out, HKP.out, HB.out⟩
              · go_simp
                obtain ⟨u26, hu26⟩ : ∃ W, u21.alloc (.cells #[.int .i64 0, .string ⟨#[]⟩, .int .i64 0, .slice none 0 0, .string ⟨#[]⟩, .int .i64 0, .slice none 0 0] 37) = W := ⟨_, rfl⟩
                obtain ⟨ga, hga⟩ : ∃ g, u21.heap.size = g := ⟨_, rfl⟩
                rw [hu26, hga]
                have nZSga : w.heap.size < ga := (by rw [← hga]; exact (Array.getElem?_eq_some_iff.1 ZS.out).1)
                have nZPga : w.heap.size + 1 < ga := (by rw [← hga]; exact (Array.getElem?_eq_some_iff.1 ZP.out).1)
                have nTgbga : gb < ga := (by rw [← hga]; exact (Array.getElem?_eq_some_iff.1 Tgb.out).1)
                replace ZS : Hid (u26.heap[w.heap.size]? = some (.cells #[.int .i64 sc, .string sr, .int .i64 sv, .slice A0 f.length c0, .string sb, .int .i64 st, .slice B0 n0 m0] 37 (0, 0))) := (by show _ = _; rw [← hu26]; exact zero_more ZS.out)
                replace ZP : Hid (u26.heap[w.heap.size + 1]? = some (.cells #[.int .i64 pc, .string pr, .int .i64 pv, .slice A1 g.length c1, .string pb] 26 (0, 0))) := (by show _ = _; rw [← hu26]; exact zero_more ZP.out)
                replace Tgb : Hid (u26.heap[gb]? = some (.cells #[.int .i64 0, .string ⟨#[]⟩, .int .i64 0, .slice none 0 0, .string ⟨#[]⟩, .int .i64 0, .slice none 0 0] 37 (0, 0))) := (by show _ = _; rw [← hu26]; exact zero_more Tgb.out)
                have Tga : Hid (u26.heap[ga]? = some (.cells #[.int .i64 0, .string ⟨#[]⟩, .int .i64 0, .slice none 0 0, .string ⟨#[]⟩, .int .i64 0, .slice none 0 0] 37 (0, 0))) := (by show _ = _; rw [← hu26, ← hga]; exact heap_alloc_new u21 _)
                have dHKPga : DisA B0 n0 ga := HKP.out.dis (by rw [← hga]; exact Nat.le_refl _)
                replace HKP := Lib.hid (HKP.out.alloc (.cells #[.int .i64 0, .string ⟨#[]⟩, .int .i64 0, .slice none 0 0, .string ⟨#[]⟩, .int .i64 0, .slice none 0 0] 37))
                rw [hu26] at HKP
                have dSAga : DisA X1 FM.length ga := SA.out.dis (by rw [← hga]; exact Nat.le_refl _)
                replace SA := Lib.hid (SA.out.alloc (.cells #[.int .i64 0, .string ⟨#[]⟩, .int .i64 0, .slice none 0 0, .string ⟨#[]⟩, .int .i64 0, .slice none 0 0] 37))
                rw [hu26] at SA
                have dKAga : DisA D1 q1 ga := KA.out.dis (by rw [← hga]; exact Nat.le_refl _)
                replace KA := Lib.hid (KA.out.alloc (.cells #[.int .i64 0, .string ⟨#[]⟩, .int .i64 0, .slice none 0 0, .string ⟨#[]⟩, .int .i64 0, .slice none 0 0] 37))
                rw [hu26] at KA
                have nbga : w.heap.size ≤ ga := (by rw [← hga]; exact HB.out.size)
                replace HB : Hid (Below w.heap.size w u26) := (by show Below _ _ _; rw [← hu26]; exact HB.out.alloc HB.out.size _)
                clear hu26 hga
                refine hK.out _ _ (⟨(cel7 ZS.out).1, (cel7 ZS.out).2.1, (cel7 ZS.out).2.2.1, (cel7 ZS.out).2.2.2.1, (cel7 ZS.out).2.2.2.2.1, (cel7 ZS.out).2.2.2.2.2.1, (cel7 ZS.out).2.2.2.2.2.2, (cel5r ZP.out).1, (cel5r ZP.out).2.1, (cel5r ZP.out).2.2.1, (cel5r ZP.out).2.2.2.1, (cel5r ZP.out).2.2.2.2⟩) (fun hHeld => ?_)
                clear hK
                try simp only [Act.put, List.setIfInBounds_toArray, List.set_cons_zero, List.set_cons_succ]
                refine wpAnyH_ready (rs := [7]) (by kernel_rfl) (by simp) (AllReadyH.cons rfl (fun K hK => ?_) AllReadyH.nil)
                have hxgb : gb < u26.heap.size := (Array.getElem?_eq_some_iff.1 Tgb.out).1
                have hxga : ga < u26.heap.size := (Array.getElem?_eq_some_iff.1 Tga.out).1
                go_simp
                go_at_call 20
                refine (K2.out _ _ HB.out).mono ?_
                rintro e u27 ⟨X2, e2, rfl, hSB, fSB, hb⟩
                replace ZS := Lib.hid (zero_still hb ZS.out)
                replace ZP := Lib.hid (zero_still hb ZP.out)
                replace Tgb := Lib.hid (zero_still hb Tgb.out)
                replace Tga := Lib.hid (zero_still hb Tga.out)
                replace HKP := Lib.hid (HKP.out.below hb)
                replace SA := Lib.hid (SA.out.below hb)
                replace KA := Lib.hid (KA.out.below hb)
                have dSBgb : DisA X2 FM.length gb := fSB.dis _ hxgb
                have dSBga : DisA X2 FM.length ga := fSB.dis _ hxga
                have SB := Lib.hid hSB
                clear hSB
                replace HB := Lib.hid (below_then HB.out hb)
                clear hb
                try go_wp2_with fail
                refine hK.out _ _ (⟨(cel7 ZS.out).1, (cel7 ZS.out).2.1, (cel7 ZS.out).2.2.1, (cel7 ZS.out).2.2.2.1, (cel7 ZS.out).2.2.2.2.1, (cel7 ZS.out).2.2.2.2.2.1, (cel7 ZS.out).2.2.2.2.2.2, (cel5r ZP.out).1, (cel5r ZP.out).2.1, (cel5r ZP.out).2.2.1, (cel5r ZP.out).2.2.2.1, (cel5r ZP.out).2.2.2.2⟩) (fun hHeld => ?_)
                clear hK
                try simp only [Act.put, List.setIfInBounds_toArray, List.set_cons_zero, List.set_cons_succ]
                refine wpAnyH_ready (rs := [10]) (by kernel_rfl) (by simp) (AllReadyH.cons rfl (fun K hK => ?_) AllReadyH.nil)
                refine step_store_row rfl _ _ _ rfl ga #[.int .i64 sc, .string sr, .int .i64 sv, .slice X1 FM.length e1, .string sb, .int .i64 now, .slice D1 q1 k1] rfl rfl 37 #[.int .i64 0, .string ⟨#[]⟩, .int .i64 0, .slice none 0 0, .string ⟨#[]⟩, .int .i64 0, .slice none 0 0] Tga.out (by kernel_rfl) rfl (by simp [Value.oneCell']) ?_
                obtain ⟨u28, hu28⟩ : ∃ W, u27.setRow ga #[.int .i64 sc, .string sr, .int .i64 sv, .slice X1 FM.length e1, .string sb, .int .i64 now, .slice D1 q1 k1] = W := ⟨_, rfl⟩
                rw [hu28]
                replace ZS : Hid (u28.heap[w.heap.size]? = some (.cells #[.int .i64 sc, .string sr, .int .i64 sv, .slice A0 f.length c0, .string sb, .int .i64 st, .slice B0 n0 m0] 37 (0, 0))) := (by show _ = _; rw [← hu28, setRow_other _ _ _ _ (by omega)]; exact ZS.out)
                replace ZP : Hid (u28.heap[w.heap.size + 1]? = some (.cells #[.int .i64 pc, .string pr, .int .i64 pv, .slice A1 g.length c1, .string pb] 26 (0, 0))) := (by show _ = _; rw [← hu28, setRow_other _ _ _ _ (by omega)]; exact ZP.out)
                replace Tgb : Hid (u28.heap[gb]? = some (.cells #[.int .i64 0, .string ⟨#[]⟩, .int .i64 0, .slice none 0 0, .string ⟨#[]⟩, .int .i64 0, .slice none 0 0] 37 (0, 0))) := (by show _ = _; rw [← hu28, setRow_other _ _ _ _ (by omega)]; exact Tgb.out)
                replace HKP := Lib.hid (HKP.out.setRowD dHKPga #[.int .i64 sc, .string sr, .int .i64 sv, .slice X1 FM.length e1, .string sb, .int .i64 now, .slice D1 q1 k1])
                rw [hu28] at HKP
                replace SA := Lib.hid (SA.out.setRowD dSAga #[.int .i64 sc, .string sr, .int .i64 sv, .slice X1 FM.length e1, .string sb, .int .i64 now, .slice D1 q1 k1])
                rw [hu28] at SA
                replace KA := Lib.hid (KA.out.setRowD dKAga #[.int .i64 sc, .string sr, .int .i64 sv, .slice X1 FM.length e1, .string sb, .int .i64 now, .slice D1 q1 k1])
                rw [hu28] at KA
                replace SB := Lib.hid (SB.out.setRowD dSBga #[.int .i64 sc, .string sr, .int .i64 sv, .slice X1 FM.length e1, .string sb, .int .i64 now, .slice D1 q1 k1])
                rw [hu28] at SB
                replace Tga : Hid (u28.heap[ga]? = some (.cells #[.int .i64 sc, .string sr, .int .i64 sv, .slice X1 FM.length e1, .string sb, .int .i64 now, .slice D1 q1 k1] 37 (0, 0))) := (by show _ = _; rw [← hu28]; exact setRow_heap _ _ _ _ _ _ Tga.out)
                replace HB : Hid (Below w.heap.size w u28) := (by show Below _ _ _; rw [← hu28]; exact below_setRow HB.out nbga _)
                clear hu28
                refine hK.out _ _ (⟨(cel7 ZS.out).1, (cel7 ZS.out).2.1, (cel7 ZS.out).2.2.1, (cel7 ZS.out).2.2.2.1, (cel7 ZS.out).2.2.2.2.1, (cel7 ZS.out).2.2.2.2.2.1, (cel7 ZS.out).2.2.2.2.2.2, (cel5r ZP.out).1, (cel5r ZP.out).2.1, (cel5r ZP.out).2.2.1, (cel5r ZP.out).2.2.2.1, (cel5r ZP.out).2.2.2.2⟩) (fun hHeld => ?_)
                clear hK
                try simp only [Act.put, List.setIfInBounds_toArray, List.set_cons_zero, List.set_cons_succ]
                refine wpAnyH_ready (rs := [11]) (by kernel_rfl) (by simp) (AllReadyH.cons rfl (fun K hK => ?_) AllReadyH.nil)
                refine step_store_row rfl _ _ _ rfl gb #[.int .i64 sc, .string sr, .int .i64 sv, .slice X2 FM.length e2, .string sb, .int .i64 now, .slice B0 n0 m0] rfl rfl 37 #[.int .i64 0, .string ⟨#[]⟩, .int .i64 0, .slice none 0 0, .string ⟨#[]⟩, .int .i64 0, .slice none 0 0] Tgb.out (by kernel_rfl) rfl (by simp [Value.oneCell']) ?_
                obtain ⟨u29, hu29⟩ : ∃ W, u28.setRow gb #[.int .i64 sc, .string sr, .int .i64 sv, .slice X2 FM.length e2, .string sb, .int .i64 now, .slice B0 n0 m0] = W := ⟨_, rfl⟩
                rw [hu29]
                replace ZS : Hid (u29.heap[w.heap.size]? = some (.cells #[.int .i64 sc, .string sr, .int .i64 sv, .slice A0 f.length c0, .string sb, .int .i64 st, .slice B0 n0 m0] 37 (0, 0))) := (by show _ = _; rw [← hu29, setRow_other _ _ _ _ (by omega)]; exact ZS.out)
                replace ZP : Hid (u29.heap[w.heap.size + 1]? = some (.cells #[.int .i64 pc, .string pr, .int .i64 pv, .slice A1 g.length c1, .string pb] 26 (0, 0))) := (by show _ = _; rw [← hu29, setRow_other _ _ _ _ (by omega)]; exact ZP.out)
                replace Tga : Hid (u29.heap[ga]? = some (.cells #[.int .i64 sc, .string sr, .int .i64 sv, .slice X1 FM.length e1, .string sb, .int .i64 now, .slice D1 q1 k1] 37 (0, 0))) := (by show _ = _; rw [← hu29, setRow_other _ _ _ _ (by omega)]; exact Tga.out)
                replace HKP := Lib.hid (HKP.out.setRowD dHKPgb #[.int .i64 sc, .string sr, .int .i64 sv, .slice X2 FM.length e2, .string sb, .int .i64 now, .slice B0 n0 m0])
                rw [hu29] at HKP
                replace SA := Lib.hid (SA.out.setRowD dSAgb #[.int .i64 sc, .string sr, .int .i64 sv, .slice X2 FM.length e2, .string sb, .int .i64 now, .slice B0 n0 m0])
                rw [hu29] at SA
                replace KA := Lib.hid (KA.out.setRowD dKAgb #[.int .i64 sc, .string sr, .int .i64 sv, .slice X2 FM.length e2, .string sb, .int .i64 now, .slice B0 n0 m0])
                rw [hu29] at KA
                replace SB := Lib.hid (SB.out.setRowD dSBgb #[.int .i64 sc, .string sr, .int .i64 sv, .slice X2 FM.length e2, .string sb, .int .i64 now, .slice B0 n0 m0])
                rw [hu29] at SB
                replace Tgb : Hid (u29.heap[gb]? = some (.cells #[.int .i64 sc, .string sr, .int .i64 sv, .slice X2 FM.length e2, .string sb, .int .i64 now, .slice B0 n0 m0] 37 (0, 0))) := (by show _ = _; rw [← hu29]; exact setRow_heap _ _ _ _ _ _ Tgb.out)
                replace HB : Hid (Below w.heap.size w u29) := (by show Below _ _ _; rw [← hu29]; exact below_setRow HB.out nbgb _)
                clear hu29
                refine hK.out _ _ (⟨(cel7 ZS.out).1, (cel7 ZS.out).2.1, (cel7 ZS.out).2.2.1, (cel7 ZS.out).2.2.2.1, (cel7 ZS.out).2.2.2.2.1, (cel7 ZS.out).2.2.2.2.2.1, (cel7 ZS.out).2.2.2.2.2.2, (cel5r ZP.out).1, (cel5r ZP.out).2.1, (cel5r ZP.out).2.2.1, (cel5r ZP.out).2.2.2.1, (cel5r ZP.out).2.2.2.2⟩) (fun hHeld => ?_)
                clear hK
                try simp only [Act.put, List.setIfInBounds_toArray, List.set_cons_zero, List.set_cons_succ]
                refine wpAnyH_done (by kernel_rfl) ?_ _
                go_wp2_with fail
                go_meet
                exact ⟨ga, gb, X1, e1, D1, q1, k1, X2, e2, rfl, rfl, KA.out.len.symm.trans HKL.out, Tga.out, Tgb.out, ZS.out, ZP.out, SA.out, SB.out, KA.out, HKP.out, HB.out⟩
          · go_simp
            obtain ⟨u30, hu30⟩ : ∃ W, u1.alloc (.cells #[.int .i64 0, .string ⟨#[]⟩, .int .i64 0, .slice none 0 0, .string ⟨#[]⟩, .int .i64 0, .slice none 0 0] 37) = W := ⟨_, rfl⟩
            obtain ⟨ga, hga⟩ : ∃ g, u1.heap.size = g := ⟨_, rfl⟩
            rw [hu30, hga]
            have nZSga : w.heap.size < ga := (by rw [← hga]; exact (Array.getElem?_eq_some_iff.1 ZS.out).1)
            have nZPga : w.heap.size + 1 < ga := (by rw [← hga]; exact (Array.getElem?_eq_some_iff.1 ZP.out).1)
            replace ZS : Hid (u30.heap[w.heap.size]? = some (.cells #[.int .i64 sc, .string sr, .int .i64 sv, .slice A0 f.length c0, .string sb, .int .i64 st, .slice B0 n0 m0] 37 (0, 0))) := (by show _ = _; rw [← hu30]; exact zero_more ZS.out)
            replace ZP : Hid (u30.heap[w.heap.size + 1]? = some (.cells #[.int .i64 pc, .string pr, .int .i64 pv, .slice A1 g.length c1, .string pb] 26 (0, 0))) := (by show _ = _; rw [← hu30]; exact zero_more ZP.out)
            have Tga : Hid (u30.heap[ga]? = some (.cells #[.int .i64 0, .string ⟨#[]⟩, .int .i64 0, .slice none 0 0, .string ⟨#[]⟩, .int .i64 0, .slice none 0 0] 37 (0, 0))) := (by show _ = _; rw [← hu30, ← hga]; exact heap_alloc_new u1 _)
            have dHKPga : DisA B0 n0 ga := HKP.out.dis (by rw [← hga]; exact Nat.le_refl _)
            replace HKP := Lib.hid (HKP.out.alloc (.cells #[.int .i64 0, .string ⟨#[]⟩, .int .i64 0, .slice none 0 0, .string ⟨#[]⟩, .int .i64 0, .slice none 0 0] 37))
            rw [hu30] at HKP
            have nbga : w.heap.size ≤ ga := (by rw [← hga]; exact HB.out.size)
            replace HB : Hid (Below w.heap.size w u30) := (by show Below _ _ _; rw [← hu30]; exact HB.out.alloc HB.out.size _)
            clear hu30 hga
            refine hK.out _ _ (⟨(cel7 ZS.out).1, (cel7 ZS.out).2.1, (cel7 ZS.out).2.2.1, (cel7 ZS.out).2.2.2.1, (cel7 ZS.out).2.2.2.2.1, (cel7 ZS.out).2.2.2.2.2.1, (cel7 ZS.out).2.2.2.2.2.2, (cel5r ZP.out).1, (cel5r ZP.out).2.1, (cel5r ZP.out).2.2.1, (cel5r ZP.out).2.2.2.1, (cel5r ZP.out).2.2.2.2⟩) (fun hHeld => ?_)
            clear hK
            try simp only [Act.put, List.setIfInBounds_toArray, List.set_cons_zero, List.set_cons_succ]
            refine wpAnyH_ready (rs := [3, 9]) (by kernel_rfl) (by simp) (AllReadyH.cons rfl (fun K hK => ?_) (AllReadyH.cons rfl (fun K hK => ?_) AllReadyH.nil))
            · have hxga : ga < u30.heap.size := (Array.getElem?_eq_some_iff.1 Tga.out).1
              go_simp
              go_at_call 19
              refine (K1.out _ _ HB.out).mono ?_
              rintro e u31 ⟨X1, e1, D1, q1, k1, rfl, hSA, fSA, hKA, oKA, hb⟩
              replace ZS := Lib.hid (zero_still hb ZS.out)
              replace ZP := Lib.hid (zero_still hb ZP.out)
              replace Tga := Lib.hid (zero_still hb Tga.out)
              replace HKP := Lib.hid (HKP.out.below hb)
              have dSAga : DisA X1 FM.length ga := fSA.dis _ hxga
              have SA := Lib.hid hSA
              clear hSA
              have dKAga : DisA D1 q1 ga := dis_or HK0.out hKA oKA nbga hxga
              have KA := Lib.hid hKA
              clear hKA
              replace HB := Lib.hid (below_then HB.out hb)
              clear hb
              try go_wp2_with fail
              refine hK.out _ _ (⟨(cel7 ZS.out).1, (cel7 ZS.out).2.1, (cel7 ZS.out).2.2.1, (cel7 ZS.out).2.2.2.1, (cel7 ZS.out).2.2.2.2.1, (cel7 ZS.out).2.2.2.2.2.1, (cel7 ZS.out).2.2.2.2.2.2, (cel5r ZP.out).1, (cel5r ZP.out).2.1, (cel5r ZP.out).2.2.1, (cel5r ZP.out).2.2.2.1, (cel5r ZP.out).2.2.2.2⟩) (fun hHeld => ?_)
              clear hK
              try simp only [Act.put, List.setIfInBounds_toArray, List.set_cons_zero, List.set_cons_succ]
              refine wpAnyH_ready (rs := [7, 9]) (by kernel_rfl) (by simp) (AllReadyH.cons rfl (fun K hK => ?_) (AllReadyH.cons rfl (fun K hK => ?_) AllReadyH.nil))
              · have hxga : ga < u31.heap.size := (Array.getElem?_eq_some_iff.1 Tga.out).1
                go_simp
                go_at_call 20
                refine (K2.out _ _ HB.out).mono ?_
                rintro e u32 ⟨X2, e2, rfl, hSB, fSB, hb⟩
                replace ZS := Lib.hid (zero_still hb ZS.out)
                replace ZP := Lib.hid (zero_still hb ZP.out)
                replace Tga := Lib.hid (zero_still hb Tga.out)
                replace HKP := Lib.hid (HKP.out.below hb)
                replace SA := Lib.hid (SA.out.below hb)
                replace KA := Lib.hid (KA.out.below hb)
                have dSBga : DisA X2 FM.length ga := fSB.dis _ hxga
                have SB := Lib.hid hSB
                clear hSB
                replace HB := Lib.hid (below_then HB.out hb)
                clear hb
                try go_wp2_with fail
                refine hK.out _ _ (⟨(cel7 ZS.out).1, (cel7 ZS.out).2.1, (cel7 ZS.out).2.2.1, (cel7 ZS.out).2.2.2.1, (cel7 ZS.out).2.2.2.2.1, (cel7 ZS.out).2.2.2.2.2.1, (cel7 ZS.out).2.2.2.2.2.2, (cel5r ZP.out).1, (cel5r ZP.out).2.1, (cel5r ZP.out).2.2.1, (cel5r ZP.out).2.2.2.1, (cel5r ZP.out).2.2.2.2⟩) (fun hHeld => ?_)
                clear hK
                try simp only [Act.put, List.setIfInBounds_toArray, List.set_cons_zero, List.set_cons_succ]
                refine wpAnyH_ready (rs := [9]) (by kernel_rfl) (by simp) (AllReadyH.cons rfl (fun K hK => ?_) AllReadyH.nil)
                go_simp
                obtain ⟨u33, hu33⟩ : ∃ W, u32.alloc (.cells #[.int .i64 0, .string ⟨#[]⟩, .int .i64 0, .slice none 0 0, .string ⟨#[]⟩, .int .i64 0, .slice none 0 0] 37) = W := ⟨_, rfl⟩
                obtain ⟨gb, hgb⟩ : ∃ g, u32.heap.size = g := ⟨_, rfl⟩
                rw [hu33, hgb]
                have nZSgb : w.heap.size < gb := (by rw [← hgb]; exact (Array.getElem?_eq_some_iff.1 ZS.out).1)
                have nZPgb : w.heap.size + 1 < gb := (by rw [← hgb]; exact (Array.getElem?_eq_some_iff.1 ZP.out).1)
                have nTgagb : ga < gb := (by rw [← hgb]; exact (Array.getElem?_eq_some_iff.1 Tga.out).1)
                replace ZS : Hid (u33.heap[w.heap.size]? = some (.cells #[.int .i64 sc, .string sr, .int .i64 sv, .slice A0 f.length c0, .string sb, .int .i64 st, .slice B0 n0 m0] 37 (0, 0))) := (by show _ = _; rw [← hu33]; exact zero_more ZS.out)
                replace ZP : Hid (u33.heap[w.heap.size + 1]? = some (.cells #[.int .i64 pc, .string pr, .int .i64 pv, .slice A1 g.length c1, .string pb] 26 (0, 0))) := (by show _ = _; rw [← hu33]; exact zero_more ZP.out)
                replace Tga : Hid (u33.heap[ga]? = some (.cells #[.int .i64 0, .string ⟨#[]⟩, .int .i64 0, .slice none 0 0, .string ⟨#[]⟩, .int .i64 0, .slice none 0 0] 37 (0, 0))) := (by show _ = _; rw [← hu33]; exact zero_more Tga.out)
                have Tgb : Hid (u33.heap[gb]? = some (.cells #[.int .i64 0, .string ⟨#[]⟩, .int .i64 0, .slice none 0 0, .string ⟨#[]⟩, .int .i64 0, .slice none 0 0] 37 (0, 0))) := (by show _ = _; rw [← hu33, ← hgb]; exact heap_alloc_new u32 _)
                have dHKPgb : DisA B0 n0 gb := HKP.out.dis (by rw [← hgb]; exact Nat.le_refl _)
                replace HKP := Lib.hid (HKP.out.alloc (.cells #[.int .i64 0, .string ⟨#[]⟩, .int .i64 0, .slice none 0 0, .string ⟨#[]⟩, .int .i64 0, .slice none 0 0] 37))
                rw [hu33] at HKP
                have dSAgb : DisA X1 FM.length gb := SA.out.dis (by rw [← hgb]; exact Nat.le_refl _)
                replace SA := Lib.hid (SA.out.alloc (.cells #[.int .i64 0, .string ⟨#[]⟩, .int .i64 0, .slice none 0 0, .string ⟨#[]⟩, .int .i64 0, .slice none 0 0] 37))
                rw [hu33] at SA
                have dKAgb : DisA D1 q1 gb := KA.out.dis (by rw [← hgb]; exact Nat.le_refl _)
                replace KA := Lib.hid (KA.out.alloc (.cells #[.int .i64 0, .string ⟨#[]⟩, .int .i64 0, .slice none 0 0, .string ⟨#[]⟩, .int .i64 0, .slice none 0 0] 37))
                rw [hu33] at KA
                have dSBgb : DisA X2 FM.length gb := SB.out.dis (by rw [← hgb]; exact Nat.le_refl _)
                replace SB := Lib.hid (SB.out.alloc (.cells #[.int .i64 0, .string ⟨#[]⟩, .int .i64 0, .slice none 0 0, .string ⟨#[]⟩, .int .i64 0, .slice none 0 0] 37))
                rw [hu33] at SB
                have nbgb : w.heap.size ≤ gb := (by rw [← hgb]; exact HB.out.size)
                replace HB : Hid (Below w.heap.size w u33) := (by show Below _ _ _; rw [← hu33]; exact HB.out.alloc HB.out.size _)
                clear hu33 hgb
                refine hK.out _ _ (⟨(cel7 ZS.out).1, (cel7 ZS.out).2.1, (cel7 ZS.out).2.2.1, (cel7 ZS.out).2.2.2.1, (cel7 ZS.out).2.2.2.2.1, (cel7 ZS.out).2.2.2.2.2.1, (cel7 ZS.out).2.2.2.2.2.2, (cel5r ZP.out).1, (cel5r ZP.out).2.1, (cel5r ZP.out).2.2.1, (cel5r ZP.out).2.2.2.1, (cel5r ZP.out).2.2.2.2⟩) (fun hHeld => ?_)
                clear hK
                try simp only [Act.put, List.setIfInBounds_toArray, List.set_cons_zero, List.set_cons_succ]
                refine wpAnyH_ready (rs := [10]) (by kernel_rfl) (by simp) (AllReadyH.cons rfl (fun K hK => ?_) AllReadyH.nil)
                refine step_store_row rfl _ _ _ rfl ga #[.int .i64 sc, .string sr, .int .i64 sv, .slice X1 FM.length e1, .string sb, .int .i64 now, .slice D1 q1 k1] rfl rfl 37 #[.int .i64 0, .string ⟨#[]⟩, .int .i64 0, .slice none 0 0, .string ⟨#[]⟩, .int .i64 0, .slice none 0 0] Tga.out (by kernel_rfl) rfl (by simp [Value.oneCell']) ?_
                obtain ⟨u34, hu34⟩ : ∃ W, u33.setRow ga #[.int .i64 sc, .string sr, .int .i64 sv, .slice X1 FM.length e1, .string sb, .int .i64 now, .slice D1 q1 k1] = W := ⟨_, rfl⟩
                rw [hu34]
                replace ZS : Hid (u34.heap[w.heap.size]? = some (.cells #[.int .i64 sc, .string sr, .int .i64 sv, .slice A0 f.length c0, .string sb, .int .i64 st, .slice B0 n0 m0] 37 (0, 0))) := (by show _ = _; rw [← hu34, setRow_other _ _ _ _ (by omega)]; exact ZS.out)
                replace ZP : Hid (u34.heap[w.heap.size + 1]? = some (.cells #[.int .i64 pc, .string pr, .int .i64 pv, .slice A1 g.length c1, .string pb] 26 (0, 0))) := (by show _ = _; rw [← hu34, setRow_other _ _ _ _ (by omega)]; exact ZP.out)
                replace Tgb : Hid (u34.heap[gb]? = some (.cells #[.int .i64 0, .string ⟨#[]⟩, .int .i64 0, .slice none 0 0, .string ⟨#[]⟩, .int .i64 0, .slice none 0 0] 37 (0, 0))) := (by show _ = _; rw [← hu34, setRow_other _ _ _ _ (by omega)]; exact Tgb.out)
                replace HKP := Lib.hid (HKP.out.setRowD dHKPga #[.int .i64 sc, .string sr, .int .i64 sv, .slice X1 FM.length e1, .string sb, .int .i64 now, .slice D1 q1 k1])
                rw [hu34] at HKP
                replace SA := Lib.hid (SA.out.setRowD dSAga #[.int .i64 sc, .string sr, .int .i64 sv, .slice X1 FM.length e1, .string sb, .int .i64 now, .slice D1 q1 k1])
                rw [hu34] at SA
                replace KA := Lib.hid (KA.out.setRowD dKAga #[.int .i64 sc, .string sr, .int .i64 sv, .slice X1 FM.length e1, .string sb, .int .i64 now, .slice D1 q1 k1])
                rw [hu34] at KA
                replace SB := Lib.hid (SB.out.setRowD dSBga #[.int .i64 sc, .string sr, .int .i64 sv, .slice X1 FM.length e1, .string sb, .int .i64 now, .slice D1 q1 k1])
                rw [hu34] at SB
                replace Tga : Hid (u34.heap[ga]? = some (.cells #[.int .i64 sc, .string sr, .int .i64 sv, .slice X1 FM.length e1, .string sb, .int .i64 now, .slice D1 q1 k1] 37 (0, 0))) := (by show _ = _; rw [← hu34]; exact setRow_heap _ _ _ _ _ _ Tga.out)
                replace HB : Hid (Below w.heap.size w u34) := (by show Below _ _ _; rw [← hu34]; exact below_setRow HB.out nbga _)
                clear hu34
                refine hK.out _ _ (⟨(cel7 ZS.out).1, (cel7 ZS.out).2.1, (cel7 ZS.out).2.2.1, (cel7 ZS.out).2.2.2.1, (cel7 ZS.out).2.2.2.2.1, (cel7 ZS.out).2.2.2.2.2.1, (cel7 ZS.out).2.2.2.2.2.2, (cel5r ZP.out).1, (cel5r ZP.out).2.1, (cel5r ZP.out).2.2.1, (cel5r ZP.out).2.2.2.1, (cel5r ZP.out).2.2.2.2⟩) (fun hHeld => ?_)
                clear hK
                try simp only [Act.put, List.setIfInBounds_toArray, List.set_cons_zero, List.set_cons_succ]
                refine wpAnyH_ready (rs := [11]) (by kernel_rfl) (by simp) (AllReadyH.cons rfl (fun K hK => ?_) AllReadyH.nil)
                refine step_store_row rfl _ _ _ rfl gb #[.int .i64 sc, .string sr, .int .i64 sv, .slice X2 FM.length e2, .string sb, .int .i64 now, .slice B0 n0 m0] rfl rfl 37 #[.int .i64 0, .string ⟨#[]⟩, .int .i64 0, .slice none 0 0, .string ⟨#[]⟩, .int .i64 0, .slice none 0 0] Tgb.out (by kernel_rfl) rfl (by simp [Value.oneCell']) ?_
                obtain ⟨u35, hu35⟩ : ∃ W, u34.setRow gb #[.int .i64 sc, .string sr, .int .i64 sv, .slice X2 FM.length e2, .string sb, .int .i64 now, .slice B0 n0 m0] = W := ⟨_, rfl⟩
                rw [hu35]
                replace ZS : Hid (u35.heap[w.heap.size]? = some (.cells #[.int .i64 sc, .string sr, .int .i64 sv, .slice A0 f.length c0, .string sb, .int .i64 st, .slice B0 n0 m0] 37 (0, 0))) := (by show _ = _; rw [← hu35, setRow_other _ _ _ _ (by omega)]; exact ZS.out)
                replace ZP : Hid (u35.heap[w.heap.size + 1]? = some (.cells #[.int .i64 pc, .string pr, .int .i64 pv, .slice A1 g.length c1, .string pb] 26 (0, 0))) := (by show _ = _; rw [← hu35, setRow_other _ _ _ _ (by omega)]; exact ZP.out)
                replace Tga : Hid (u35.heap[ga]? = some (.cells #[.int .i64 sc, .string sr, .int .i64 sv, .slice X1 FM.length e1, .string sb, .int .i64 now, .slice D1 q1 k1] 37 (0, 0))) := (by show _ = _; rw [← hu35, setRow_other _ _ _ _ (by omega)]; exact Tga.out)
                replace HKP := Lib.hid (HKP.out.setRowD dHKPgb #[.int .i64 sc, .string sr, .int .i64 sv, .slice X2 FM.length e2, .string sb, .int .i64 now, .slice B0 n0 m0])
                rw [hu35] at HKP
                replace SA := Lib.hid (SA.out.setRowD dSAgb #[.int .i64 sc, .string sr, .int .i64 sv, .slice X2 FM.length e2, .string sb, .int .i64 now, .slice B0 n0 m0])
                rw [hu35] at SA
                replace KA := Lib.hid (KA.out.setRowD dKAgb #[.int .i64 sc, .string sr, .int .i64 sv, .slice X2 FM.length e2, .string sb, .int .i64 now, .slice B0 n0 m0])
                rw [hu35] at KA
                replace SB := Lib.hid (SB.out.setRowD dSBgb #[.int .i64 sc, .string sr, .int .i64 sv, .slice X2 FM.length e2, .string sb, .int .i64 now, .slice B0 n0 m0])
                rw [hu35] at SB
                replace Tgb : Hid (u35.heap[gb]? = some (.cells #[.int .i64 sc, .string sr, .int .i64 sv, .slice X2 FM.length e2, .string sb, .int .i64 now, .slice B0 n0 m0] 37 (0, 0))) := (by show _ = _; rw [← hu35]; exact setRow_heap _ _ _ _ _ _ Tgb.out)
                replace HB : Hid (Below w.heap.size w u35) := (by show Below _ _ _; rw [← hu35]; exact below_setRow HB.out nbgb _)
                clear hu35
                refine hK.out _ _ (⟨(cel7 ZS.out).1, (cel7 ZS.out).2.1, (cel7 ZS.out).2.2.1, (cel7 ZS.out).2.2.2.1, (cel7 ZS.out).2.2.2.2.1, (cel7 ZS.out).2.2.2.2.2.1, (cel7 ZS.out).2.2.2.2.2.2, (cel5r ZP.out).1, (cel5r ZP.out).2.1, (cel5r ZP.out).2.2.1, (cel5r ZP.out).2.2.2.1, (cel5r ZP.out).2.2.2.2⟩) (fun hHeld => ?_)
                clear hK
                try simp only [Act.put, List.setIfInBounds_toArray, List.set_cons_zero, List.set_cons_succ]
                refine wpAnyH_done (by kernel_rfl) ?_ _
                go_wp2_with fail
                go_meet
                exact ⟨ga, gb, X1, e1, D1, q1, k1, X2, e2, rfl, rfl, KA.out.len.symm.trans HKL.out, Tga.out, Tgb.out, ZS.out, ZP.out, SA.out, SB.out, KA.out, HKP.out, HB.out⟩
              · go_simp
                obtain ⟨u36, hu36⟩ : ∃ W, u31.alloc (.cells #[.int .i64 0, .string ⟨#[]⟩, .int .i64 0, .slice none 0 0, .string ⟨#[]⟩, .int .i64 0, .slice none 0 0] 37) = W := ⟨_, rfl⟩
                obtain ⟨gb, hgb⟩ : ∃ g, u31.heap.size = g := ⟨_, rfl⟩
                rw [hu36, hgb]
                have nZSgb : w.heap.size < gb := (by rw [← hgb]; exact (Array.getElem?_eq_some_iff.1 ZS.out).1)
                have nZPgb : w.heap.size + 1 < gb := (by rw [← hgb]; exact (Array.getElem?_eq_some_iff.1 ZP.out).1)
                have nTgagb : ga < gb := (by rw [← hgb]; exact (Array.getElem?_eq_some_iff.1 Tga.out).1)
                replace ZS : Hid (u36.heap[w.heap.size]? = some (.cells #[.int .i64 sc, .string sr, .int .i64 sv, .slice A0 f.length c0, .string sb, .int .i64 st, .slice B0 n0 m0] 37 (0, 0))) := (by show _ = _; rw [← hu36]; exact zero_more ZS.out)
                replace ZP : Hid (u36.heap[w.heap.size + 1]? = some (.cells #[.int .i64 pc, .string pr, .int .i64 pv, .slice A1 g.length c1, .string pb] 26 (0, 0))) := (by show _ = _; rw [← hu36]; exact zero_more ZP.out)
                replace Tga : Hid (u36.heap[ga]? = some (.cells #[.int .i64 0, .string ⟨#[]⟩, .int .i64 0, .slice none 0 0, .string ⟨#[]⟩, .int .i64 0, .slice none 0 0] 37 (0, 0))) := (by show _ = _; rw [← hu36]; exact zero_more Tga.out)
                have Tgb : Hid (u36.heap[gb]? = some (.cells #[.int .i64 0, .string ⟨#[]⟩, .int .i64 0, .slice none 0 0, .string ⟨#[]⟩, .int .i64 0, .slice none 0 0] 37 (0, 0))) := (by show _ = _; rw [← hu36, ← hgb]; exact heap_alloc_new u31 _)
                have dHKPgb : DisA B0 n0 gb := HKP.out.dis (by rw [← hgb]; exact Nat.le_refl _)
                replace HKP := Lib.hid (HKP.out.alloc (.cells #[.int .i64 0, .string ⟨#[]⟩, .int .i64 0, .slice none 0 0, .string ⟨#[]⟩, .int .i64 0, .slice none 0 0] 37))
                rw [hu36] at HKP
                have dSAgb : DisA X1 FM.length gb := SA.out.dis (by rw [← hgb]; exact Nat.le_refl _)
                replace SA := Lib.hid (SA.out.alloc (.cells #[.int .i64 0, .string ⟨#[]⟩, .int .i64 0, .slice none 0 0, .string ⟨#[]⟩, .int .i64 0, .slice none 0 0] 37))
                rw [hu36] at SA
                have dKAgb : DisA D1 q1 gb := KA.out.dis (by rw [← hgb]; exact Nat.le_refl _)
                replace KA := Lib.hid (KA.out.alloc (.cells #[.int .i64 0, .string ⟨#[]⟩, .int .i64 0, .slice none 0 0, .string ⟨#[]⟩, .int .i64 0, .slice none 0 0] 37))
                rw [hu36] at KA
                have nbgb : w.heap.size ≤ gb := (by rw [← hgb]; exact HB.out.size)
                replace HB : Hid (Below w.heap.size w u36) := (by show Below _ _ _; rw [← hu36]; exact HB.out.alloc HB.out.size _)
                clear hu36 hgb
                refine hK.out _ _ (⟨(cel7 ZS.out).1, (cel7 ZS.out).2.1, (cel7 ZS.out).2.2.1, (cel7 ZS.out).2.2.2.1, (cel7 ZS.out).2.2.2.2.1, (cel7 ZS.out).2.2.2.2.2.1, (cel7 ZS.out).2.2.2.2.2.2, (cel5r ZP.out).1, (cel5r ZP.out).2.1, (cel5r ZP.out).2.2.1, (cel5r ZP.out).2.2.2.1, (cel5r ZP.out).2.2.2.2⟩) (fun hHeld => ?_)
                clear hK
                try simp only [Act.put, List.setIfInBounds_toArray, List.set_cons_zero, List.set_cons_succ]
                refine wpAnyH_ready (rs := [7]) (by kernel_rfl) (by simp) (AllReadyH.cons rfl (fun K hK => ?_) AllReadyH.nil)
                have hxga : ga < u36.heap.size := (Array.getElem?_eq_some_iff.1 Tga.out).1
                have hxgb : gb < u36.heap.size := (Array.getElem?_eq_some_iff.1 Tgb.out).1
                go_simp
                go_at_call 20
                refine (K2.out _ _ HB.out).mono ?_
                rintro e u37 ⟨X2, e2, rfl, hSB, fSB, hb⟩
                replace ZS := Lib.hid (zero_still hb ZS.out)
                replace ZP := Lib.hid (zero_still hb ZP.out)
                replace Tga := Lib.hid (zero_still hb Tga.out)
                replace Tgb := Lib.hid (zero_still hb Tgb.out)
                replace HKP := Lib.hid (HKP.out.below hb)
                replace SA := Lib.hid (SA.out.below hb)
                replace KA := Lib.hid (KA.out.below hb)
                have dSBga : DisA X2 FM.length ga := fSB.dis _ hxga
                have dSBgb : DisA X2 FM.length gb := fSB.dis _ hxgb
                have SB := Lib.hid hSB
                clear hSB
                replace HB := Lib.hid (below_then HB.out hb)
                clear hb
                try go_wp2_with fail
                refine hK.out _ _ (⟨(cel7 ZS.out).1, (cel7 ZS.out).2.1, (cel7 ZS.out).2.2.1, (cel7 ZS.out).2.2.2.1, (cel7 ZS.out).2.2.2.2.1, (cel7 ZS.out).2.2.2.2.2.1, (cel7 ZS.out).2.2.2.2.2.2, (cel5r ZP.out).1, (cel5r ZP.out).2.1, (cel5r ZP.out).2.2.1, (cel5r ZP.out).2.2.2.1, (cel5r ZP.out).2.2.2.2⟩) (fun hHeld => ?_)
                clear hK
                try simp only [Act.put, List.setIfInBounds_toArray, List.set_cons_zero, List.set_cons_succ]
                refine wpAnyH_ready (rs := [10]) (by kernel_rfl) (by simp) (AllReadyH.cons rfl (fun K hK => ?_) AllReadyH.nil)
                refine step_store_row rfl _ _ _ rfl ga #[.int .i64 sc, .string sr, .int .i64 sv, .slice X1 FM.length e1, .string sb, .int .i64 now, .slice D1 q1 k1] rfl rfl 37 #[.int .i64 0, .string ⟨#[]⟩, .int .i64 0, .slice none 0 0, .string ⟨#[]⟩, .int .i64 0, .slice none 0 0] Tga.out (by kernel_rfl) rfl (by simp [Value.oneCell']) ?_
                obtain ⟨u38, hu38⟩ : ∃ W, u37.setRow ga #[.int .i64 sc, .string sr, .int .i64 sv, .slice X1 FM.length e1, .string sb, .int .i64 now, .slice D1 q1 k1] = W := ⟨_, rfl⟩
                rw [hu38]
                replace ZS : Hid (u38.heap[w.heap.size]? = some (.cells #[.int .i64 sc, .string sr, .int .i64 sv, .slice A0 f.length c0, .string sb, .int .i64 st, .slice B0 n0 m0] 37 (0, 0))) := (by show _ = _; rw [← hu38, setRow_other _ _ _ _ (by omega)]; exact ZS.out)
                replace ZP : Hid (u38.heap[w.heap.size + 1]? = some (.cells #[.int .i64 pc, .string pr, .int .i64 pv, .slice A1 g.length c1, .string pb] 26 (0, 0))) := (by show _ = _; rw [← hu38, setRow_other _ _ _ _ (by omega)]; exact ZP.out)
                replace Tgb : Hid (u38.heap[gb]? = some (.cells #[.int .i64 0, .string ⟨#[]⟩, .int .i64 0, .slice none 0 0, .string ⟨#[]⟩, .int .i64 0, .slice none 0 0] 37 (0, 0))) := (by show _ = _; rw [← hu38, setRow_other _ _ _ _ (by omega)]; exact Tgb.out)
                replace HKP := Lib.hid (HKP.out.setRowD dHKPga #[.int .i64 sc, .string sr, .int .i64 sv, .slice X1 FM.length e1, .string sb, .int .i64 now, .slice D1 q1 k1])
                rw [hu38] at HKP
                replace SA := Lib.hid (SA.out.setRowD dSAga #[.int .i64 sc, .string sr, .int .i64 sv, .slice X1 FM.length e1, .string sb, .int .i64 now, .slice D1 q1 k1])
                rw [hu38] at SA
                replace KA := Lib.hid (KA.out.setRowD dKAga #[.int .i64 sc, .string sr, .int .i64 sv, .slice X1 FM.length e1, .string sb, .int .i64 now, .slice D1 q1 k1])
                rw [hu38] at KA
                replace SB := Lib.hid (SB.out.setRowD dSBga #[.int .i64 sc, .string sr, .int .i64 sv, .slice X1 FM.length e1, .string sb, .int .i64 now, .slice D1 q1 k1])
                rw [hu38] at SB
                replace Tga : Hid (u38.heap[ga]? = some (.cells #[.int .i64 sc, .string sr, .int .i64 sv, .slice X1 FM.length e1, .string sb, .int .i64 now, .slice D1 q1 k1] 37 (0, 0))) := (by show _ = _; rw [← hu38]; exact setRow_heap _ _ _ _ _ _ Tga.out)
                replace HB : Hid (Below w.heap.size w u38) := (by show Below _ _ _; rw [← hu38]; exact below_setRow HB.out nbga _)
                clear hu38
                refine hK.out _ _ (⟨(cel7 ZS.out).1, (cel7 ZS.out).2.1, (cel7 ZS.out).2.2.1, (cel7 ZS.out).2.2.2.1, (cel7 ZS.out).2.2.2.2.1, (cel7 ZS.out).2.2.2.2.2.1, (cel7 ZS.out).2.2.2.2.2.2, (cel5r ZP.out).1, (cel5r ZP.out).2.1, (cel5r ZP.out).2.2.1, (cel5r ZP.out).2.2.2.1, (cel5r ZP.out).2.2.2.2⟩) (fun hHeld => ?_)
                clear hK
                try simp only [Act.put, List.setIfInBounds_toArray, List.set_cons_zero, List.set_cons_succ]
                refine wpAnyH_ready (rs := [11]) (by kernel_rfl) (by simp) (AllReadyH.cons rfl (fun K hK => ?_) AllReadyH.nil)
                refine step_store_row rfl _ _ _ rfl gb #[.int .i64 sc, .string sr, .int .i64 sv, .slice X2 FM.length e2, .string sb, .int .i64 now, .slice B0 n0 m0] rfl rfl 37 #[.int .i64 0, .string ⟨#[]⟩, .int .i64 0, .slice none 0 0, .string ⟨#[]⟩, .int .i64 0, .slice none 0 0] Tgb.out (by kernel_rfl) rfl (by simp [Value.oneCell']) ?_
                obtain ⟨u39, hu39⟩ : ∃ W, u38.setRow gb #[.int .i64 sc, .string sr, .int .i64 sv, .slice X2 FM.length e2, .string sb, .int .i64 now, .slice B0 n0 m0] = W := ⟨_, rfl⟩
                rw [hu39]
                replace ZS : Hid (u39.heap[w.heap.size]? = some (.cells #[.int .i64 sc, .string sr, .int .i64 sv, .slice A0 f.length c0, .string sb, .int .i64 st, .slice B0 n0 m0] 37 (0, 0))) := (by show _ = _; rw [← hu39, setRow_other _ _ _ _ (by omega)]; exact ZS.out)
                replace ZP : Hid (u39.heap[w.heap.size + 1]? = some (.cells #[.int .i64 pc, .string pr, .int .i64 pv, .slice A1 g.length c1, .string pb] 26 (0, 0))) := (by show _ = _; rw [← hu39, setRow_other _ _ _ _ (by omega)]; exact ZP.out)
                replace Tga : Hid (u39.heap[ga]? = some (.cells #[.int .i64 sc, .string sr, .int .i64 sv, .slice X1 FM.length e1, .string sb, .int .i64 now, .slice D1 q1 k1] 37 (0, 0))) := (by show _ = _; rw [← hu39, setRow_other _ _ _ _ (by omega)]; exact Tga.out)
                replace HKP := Lib.hid (HKP.out.setRowD dHKPgb #[.int .i64 sc, .string sr, .int .i64 sv, .slice X2 FM.length e2, .string sb, .int .i64 now, .slice B0 n0 m0])
                rw [hu39] at HKP
                replace SA := Lib.hid (SA.out.setRowD dSAgb #[.int .i64 sc, .string sr, .int .i64 sv, .slice X2 FM.length e2, .string sb, .int .i64 now, .slice B0 n0 m0])
                rw [hu39] at SA
                replace KA := Lib.hid (KA.out.setRowD dKAgb #[.int .i64 sc, .string sr, .int .i64 sv, .slice X2 FM.length e2, .string sb, .int .i64 now, .slice B0 n0 m0])
                rw [hu39] at KA
                replace SB := Lib.hid (SB.out.setRowD dSBgb #[.int .i64 sc, .string sr, .int .i64 sv, .slice X2 FM.length e2, .string sb, .int .i64 now, .slice B0 n0 m0])
                rw [hu39] at SB
                replace Tgb : Hid (u39.heap[gb]? = some (.cells #[.int .i64 sc, .string sr, .int .i64 sv, .slice X2 FM.length e2, .string sb, .int .i64 now, .slice B0 n0 m0] 37 (0, 0))) := (by show _ = _; rw [← hu39]; exact setRow_heap _ _ _ _ _ _ Tgb.out)
                replace HB : Hid (Below w.heap.size w u39) := (by show Below _ _ _; rw [← hu39]; exact below_setRow HB.out nbgb _)
                clear hu39
                refine hK.out _ _ (⟨(cel7 ZS.out).1, (cel7 ZS.out).2.1, (cel7 ZS.out).2.2.1, (cel7 ZS.out).2.2.2.1, (cel7 ZS.out).2.2.2.2.1, (cel7 ZS.out).2.2.2.2.2.1, (cel7 ZS.out).2.2.2.2.2.2, (cel5r ZP.out).1, (cel5r ZP.out).2.1, (cel5r ZP.out).2.2.1, (cel5r ZP.out).2.2.2.1, (cel5r ZP.out).2.2.2.2⟩) (fun hHeld => ?_)
                clear hK
                try simp only [Act.put, List.setIfInBounds_toArray, List.set_cons_zero, List.set_cons_succ]
                refine wpAnyH_done (by kernel_rfl) ?_ _
                go_wp2_with fail
                go_meet
                exact ⟨ga, gb, X1, e1, D1, q1, k1, X2, e2, rfl, rfl, KA.out.len.symm.trans HKL.out, Tga.out, Tgb.out, ZS.out, ZP.out, SA.out, SB.out, KA.out, HKP.out, HB.out⟩
            · go_simp
              obtain ⟨u40, hu40⟩ : ∃ W, u30.alloc (.cells #[.int .i64 0, .string ⟨#[]⟩, .int .i64 0, .slice none 0 0, .string ⟨#[]⟩, .int .i64 0, .slice none 0 0] 37) = W := ⟨_, rfl⟩
              obtain ⟨gb, hgb⟩ : ∃ g, u30.heap.size = g := ⟨_, rfl⟩
              rw [hu40, hgb]
              have nZSgb : w.heap.size < gb := (by rw [← hgb]; exact (Array.getElem?_eq_some_iff.1 ZS.out).1)
              have nZPgb : w.heap.size + 1 < gb := (by rw [← hgb]; exact (Array.getElem?_eq_some_iff.1 ZP.out).1)
              have nTgagb : ga < gb := (by rw [← hgb]; exact (Array.getElem?_eq_some_iff.1 Tga.out).1)
              replace ZS : Hid (u40.heap[w.heap.size]? = some (.cells #[.int .i64 sc, .string sr, .int .i64 sv, .slice A0 f.length c0, .string sb, .int .i64 st, .slice B0 n0 m0] 37 (0, 0))) := (by show _ = _; rw [← hu40]; exact zero_more ZS.out)
              replace ZP : Hid (u40.heap[w.heap.size + 1]? = some (.cells #[.int .i64 pc, .string pr, .int .i64 pv, .slice A1 g.length c1, .string pb] 26 (0, 0))) := (by show _ = _; rw [← hu40]; exact zero_more ZP.out)
              replace Tga : Hid (u40.heap[ga]? = some (.cells #[.int .i64 0, .string ⟨#[]⟩, .int .i64 0, .slice none 0 0, .string ⟨#[]⟩, .int .i64 0, .slice none 0 0] 37 (0, 0))) := (by show _ = _; rw [← hu40]; exact zero_more Tga.out)
              have Tgb : Hid (u40.heap[gb]? = some (.cells #[.int .i64 0, .string ⟨#[]⟩, .int .i64 0, .slice none 0 0, .string ⟨#[]⟩, .int .i64 0, .slice none 0 0] 37 (0, 0))) := (by show _ = _; rw [← hu40, ← hgb]; exact heap_alloc_new u30 _)
              have dHKPgb : DisA B0 n0 gb := HKP.out.dis (by rw [← hgb]; exact Nat.le_refl _)
              replace HKP := Lib.hid (HKP.out.alloc (.cells #[.int .i64 0, .string ⟨#[]⟩, .int .i64 0, .slice none 0 0, .string ⟨#[]⟩, .int .i64 0, .slice none 0 0] 37))
              rw [hu40] at HKP
              have nbgb : w.heap.size ≤ gb := (by rw [← hgb]; exact HB.out.size)
              replace HB : Hid (Below w.heap.size w u40) := (by show Below _ _ _; rw [← hu40]; exact HB.out.alloc HB.out.size _)
              clear hu40 hgb
              refine hK.out _ _ (⟨(cel7 ZS.out).1, (cel7 ZS.out).2.1, (cel7 ZS.out).2.2.1, (cel7 ZS.out).2.2.2.1, (cel7 ZS.out).2.2.2.2.1, (cel7 ZS.out).2.2.2.2.2.1, (cel7 ZS.out).2.2.2.2.2.2, (cel5r ZP.out).1, (cel5r ZP.out).2.1, (cel5r ZP.out).2.2.1, (cel5r ZP.out).2.2.2.1, (cel5r ZP.out).2.2.2.2⟩) (fun hHeld => ?_)
              clear hK
              try simp only [Act.put, List.setIfInBounds_toArray, List.set_cons_zero, List.set_cons_succ]
              refine wpAnyH_ready (rs := [3]) (by kernel_rfl) (by simp) (AllReadyH.cons rfl (fun K hK => ?_) AllReadyH.nil)
              have hxga : ga < u40.heap.size := (Array.getElem?_eq_some_iff.1 Tga.out).1
              have hxgb : gb < u40.heap.size := (Array.getElem?_eq_some_iff.1 Tgb.out).1
              go_simp
              go_at_call 19
              refine (K1.out _ _ HB.out).mono ?_
              rintro e u41 ⟨X1, e1, D1, q1, k1, rfl, hSA, fSA, hKA, oKA, hb⟩
              replace ZS := Lib.hid (zero_still hb ZS.out)
              replace ZP := Lib.hid (zero_still hb ZP.out)
              replace Tga := Lib.hid (zero_still hb Tga.out)
              replace Tgb := Lib.hid (zero_still hb Tgb.out)
              replace HKP := Lib.hid (HKP.out.below hb)
              have dSAga : DisA X1 FM.length ga := fSA.dis _ hxga
              have dSAgb : DisA X1 FM.length gb := fSA.dis _ hxgb
              have SA := Lib.hid hSA
              clear hSA
              have dKAga : DisA D1 q1 ga := dis_or HK0.out hKA oKA nbga hxga
              have dKAgb : DisA D1 q1 gb := dis_or HK0.out hKA oKA nbgb hxgb
              have KA := Lib.hid hKA
              clear hKA
              replace HB := Lib.hid (below_then HB.out hb)
              clear hb
              try go_wp2_with fail
              refine hK.out _ _ (⟨(cel7 ZS.out).1, (cel7 ZS.out).2.1, (cel7 ZS.out).2.2.1, (cel7 ZS.out).2.2.2.1, (cel7 ZS.out).2.2.2.2.1, (cel7 ZS.out).2.2.2.2.2.1, (cel7 ZS.out).2.2.2.2.2.2, (cel5r ZP.out).1, (cel5r ZP.out).2.1, (cel5r ZP.out).2.2.1, (cel5r ZP.out).2.2.2.1, (cel5r ZP.out).2.2.2.2⟩) (fun hHeld => ?_)
              clear hK
              try simp only [Act.put, List.setIfInBounds_toArray, List.set_cons_zero, List.set_cons_succ]
              refine wpAnyH_ready (rs := [7]) (by kernel_rfl) (by simp) (AllReadyH.cons rfl (fun K hK => ?_) AllReadyH.nil)
              have hxga : ga < u41.heap.size := (Array.getElem?_eq_some_iff.1 Tga.out).1
              have hxgb : gb < u41.heap.size := (Array.getElem?_eq_some_iff.1 Tgb.out).1
              go_simp
              go_at_call 20
              refine (K2.out _ _ HB.out).mono ?_
              rintro e u42 ⟨X2, e2, rfl, hSB, fSB, hb⟩
              replace ZS := Lib.hid (zero_still hb ZS.out)
              replace ZP := Lib.hid (zero_still hb ZP.out)
              replace Tga := Lib.hid (zero_still hb Tga.out)
              replace Tgb := Lib.hid (zero_still hb Tgb.out)
              replace HKP := Lib.hid (HKP.out.below hb)
              replace SA := Lib.hid (SA.out.below hb)
              replace KA := Lib.hid (KA.out.below hb)
              have dSBga : DisA X2 FM.length ga := fSB.dis _ hxga
              have dSBgb : DisA X2 FM.length gb := fSB.dis _ hxgb
              have SB := Lib.hid hSB
              clear hSB
              replace HB := Lib.hid (below_then HB.out hb)
              clear hb
              try go_wp2_with fail
              refine hK.out _ _ (⟨(cel7 ZS.out).1, (cel7 ZS.out).2.1, (cel7 ZS.out).2.2.1, (cel7 ZS.out).2.2.2.1, (cel7 ZS.out).2.2.2.2.1, (cel7 ZS.out).2.2.2.2.2.1, (cel7 ZS.out).2.2.2.2.2.2, (cel5r ZP.out).1, (cel5r ZP.out).2.1, (cel5r ZP.out).2.2.1, (cel5r ZP.out).2.2.2.1, (cel5r ZP.out).2.2.2.2⟩) (fun hHeld => ?_)
              clear hK
              try simp only [Act.put, List.setIfInBounds_toArray, List.set_cons_zero, List.set_cons_succ]
              refine wpAnyH_ready (rs := [10]) (by kernel_rfl) (by simp) (AllReadyH.cons rfl (fun K hK => ?_) AllReadyH.nil)
              refine step_store_row rfl _ _ _ rfl ga #[.int .i64 sc, .string sr, .int .i64 sv, .slice X1 FM.length e1, .string sb, .int .i64 now, .slice D1 q1 k1] rfl rfl 37 #[.int .i64 0, .string ⟨#[]⟩, .int .i64 0, .slice none 0 0, .string ⟨#[]⟩, .int .i64 0, .slice none 0 0] Tga.out (by kernel_rfl) rfl (by simp [Value.oneCell']) ?_
              obtain ⟨u43, hu43⟩ : ∃ W, u42.setRow ga #[.int .i64 sc, .string sr, .int .i64 sv, .slice X1 FM.length e1, .string sb, .int .i64 now, .slice D1 q1 k1] = W := ⟨_, rfl⟩
              rw [hu43]
              replace ZS : Hid (u43.heap[w.heap.size]? = some (.cells #[.int .i64 sc, .string sr, .int .i64 sv, .slice A0 f.length c0, .string sb, .int .i64 st, .slice B0 n0 m0] 37 (0, 0))) := (by show _ = _; rw [← hu43, setRow_other _ _ _ _ (by omega)]; exact ZS.out)
              replace ZP : Hid (u43.heap[w.heap.size + 1]? = some (.cells #[.int .i64 pc, .string pr, .int .i64 pv, .slice A1 g.length c1, .string pb] 26 (0, 0))) := (by show _ = _; rw [← hu43, setRow_other _ _ _ _ (by omega)]; exact ZP.out)
              replace Tgb : Hid (u43.heap[gb]? = some (.cells #[.int .i64 0, .string ⟨#[]⟩, .int .i64 0, .slice none 0 0, .string ⟨#[]⟩, .int .i64 0, .slice none 0 0] 37 (0, 0))) := (by show _ = _; rw [← hu43, setRow_other _ _ _ _ (by omega)]; exact Tgb.out)
              replace HKP := Lib.hid (HKP.out.setRowD dHKPga #[.int .i64 sc, .string sr, .int .i64 sv, .slice X1 FM.length e1, .string sb, .int .i64 now, .slice D1 q1 k1])
              rw [hu43] at HKP
              replace SA := Lib.hid (SA.out.setRowD dSAga #[.int .i64 sc, .string sr, .int .i64 sv, .slice X1 FM.length e1, .string sb, .int .i64 now, .slice D1 q1 k1])
              rw [hu43] at SA
              replace KA := Lib.hid (KA.out.setRowD dKAga #[.int .i64 sc, .string sr, .int .i64 sv, .slice X1 FM.length e1, .string sb, .int .i64 now, .slice D1 q1 k1])
              rw [hu43] at KA
              replace SB := Lib.hid (SB.out.setRowD dSBga #[.int .i64 sc, .string sr, .int .i64 sv, .slice X1 FM.length e1, .string sb, .int .i64 now, .slice D1 q1 k1])
              rw [hu43] at SB
              replace Tga : Hid (u43.heap[ga]? = some (.cells #[.int .i64 sc, .string sr, .int .i64 sv, .slice X1 FM.length e1, .string sb, .int .i64 now, .slice D1 q1 k1] 37 (0, 0))) := (by show _ = _; rw [← hu43]; exact setRow_heap _ _ _ _ _ _ Tga.out)
              replace HB : Hid (Below w.heap.size w u43) := (by show Below _ _ _; rw [← hu43]; exact below_setRow HB.out nbga _)
              clear hu43
              refine hK.out _ _ (⟨(cel7 ZS.out).1, (cel7 ZS.out).2.1, (cel7 ZS.out).2.2.1, (cel7 ZS.out).2.2.2.1, (cel7 ZS.out).2.2.2.2.1, (cel7 ZS.out).2.2.2.2.2.1, (cel7 ZS.out).2.2.2.2.2.2, (cel5r ZP.out).1, (cel5r ZP.out).2.1, (cel5r ZP.out).2.2.1, (cel5r ZP.out).2.2.2.1, (cel5r ZP.out).2.2.2.2⟩) (fun hHeld => ?_)
              clear hK
              try simp only [Act.put, List.setIfInBounds_toArray, List.set_cons_zero, List.set_cons_succ]
              refine wpAnyH_ready (rs := [11]) (by kernel_rfl) (by simp) (AllReadyH.cons rfl (fun K hK => ?_) AllReadyH.nil)
              refine step_store_row rfl _ _ _ rfl gb #[.int .i64 sc, .string sr, .int .i64 sv, .slice X2 FM.length e2, .string sb, .int .i64 now, .slice B0 n0 m0] rfl rfl 37 #[.int .i64 0, .string ⟨#[]⟩, .int .i64 0, .slice none 0 0, .string ⟨#[]⟩, .int .i64 0, .slice none 0 0] Tgb.out (by kernel_rfl) rfl (by simp [Value.oneCell']) ?_
              obtain ⟨u44, hu44⟩ : ∃ W, u43.setRow gb #[.int .i64 sc, .string sr, .int .i64 sv, .slice X2 FM.length e2, .string sb, .int .i64 now, .slice B0 n0 m0] = W := ⟨_, rfl⟩
              rw [hu44]
              replace ZS : Hid (u44.heap[w.heap.size]? = some (.cells #[.int .i64 sc, .string sr, .int .i64 sv, .slice A0 f.length c0, .string sb, .int .i64 st, .slice B0 n0 m0] 37 (0, 0))) := (by show _ = _; rw [← hu44, setRow_other _ _ _ _ (by omega)]; exact ZS.out)
              replace ZP : Hid (u44.heap[w.heap.size + 1]? = some (.cells #[.int .i64 pc, .string pr, .int .i64 pv, .slice A1 g.length c1, .string pb] 26 (0, 0))) := (by show _ = _; rw [← hu44, setRow_other _ _ _ _ (by omega)]; exact ZP.out)
              replace Tga : Hid (u44.heap[ga]? = some (.cells #[.int .i64 sc, .string sr, .int .i64 sv, .slice X1 FM.length e1, .string sb, .int .i64 now, .slice D1 q1 k1] 37 (0, 0))) := (by show _ = _; rw [← hu44, setRow_other _ _ _ _ (by omega)]; exact Tga.out)
              replace HKP := Lib.hid (HKP.out.setRowD dHKPgb #[.int .i64 sc, .string sr, .int .i64 sv, .slice X2 FM.length e2, .string sb, .int .i64 now, .slice B0 n0 m0])
              rw [hu44] at HKP
              replace SA := Lib.hid (SA.out.setRowD dSAgb #[.int .i64 sc, .string sr, .int .i64 sv, .slice X2 FM.length e2, .string sb, .int .i64 now, .slice B0 n0 m0])
              rw [hu44] at SA
              replace KA := Lib.hid (KA.out.setRowD dKAgb #[.int .i64 sc, .string sr, .int .i64 sv, .slice X2 FM.length e2, .string sb, .int .i64 now, .slice B0 n0 m0])
              rw [hu44] at KA
              replace SB := Lib.hid (SB.out.setRowD dSBgb #[.int .i64 sc, .string sr, .int .i64 sv, .slice X2 FM.length e2, .string sb, .int .i64 now, .slice B0 n0 m0])
              rw [hu44] at SB
              replace Tgb : Hid (u44.heap[gb]? = some (.cells #[.int .i64 sc, .string sr, .int .i64 sv, .slice X2 FM.length e2, .string sb, .int .i64 now, .slice B0 n0 m0] 37 (0, 0))) := (by show _ = _; rw [← hu44]; exact setRow_heap _ _ _ _ _ _ Tgb.out)
              replace HB : Hid (Below w.heap.size w u44) := (by show Below _ _ _; rw [← hu44]; exact below_setRow HB.out nbgb _)
              clear hu44
              refine hK.out _ _ (⟨(cel7 ZS.out).1, (cel7 ZS.out).2.1, (cel7 ZS.out).2.2.1, (cel7 ZS.out).2.2.2.1, (cel7 ZS.out).2.2.2.2.1, (cel7 ZS.out).2.2.2.2.2.1, (cel7 ZS.out).2.2.2.2.2.2, (cel5r ZP.out).1, (cel5r ZP.out).2.1, (cel5r ZP.out).2.2.1, (cel5r ZP.out).2.2.2.1, (cel5r ZP.out).2.2.2.2⟩) (fun hHeld => ?_)
              clear hK
              try simp only [Act.put, List.setIfInBounds_toArray, List.set_cons_zero, List.set_cons_succ]
              refine wpAnyH_done (by kernel_rfl) ?_ _
              go_wp2_with fail
              go_meet
              exact ⟨ga, gb, X1, e1, D1, q1, k1, X2, e2, rfl, rfl, KA.out.len.symm.trans HKL.out, Tga.out, Tgb.out, ZS.out, ZP.out, SA.out, SB.out, KA.out, HKP.out, HB.out⟩
          · go_simp
            obtain ⟨u45, hu45⟩ : ∃ W, u1.alloc (.cells #[.int .i64 0, .string ⟨#[]⟩, .int .i64 0, .slice none 0 0, .string ⟨#[]⟩, .int .i64 0, .slice none 0 0] 37) = W := ⟨_, rfl⟩
            obtain ⟨gb, hgb⟩ : ∃ g, u1.heap.size = g := ⟨_, rfl⟩
            rw [hu45, hgb]
            have nZSgb : w.heap.size < gb := (by rw [← hgb]; exact (Array.getElem?_eq_some_iff.1 ZS.out).1)
            have nZPgb : w.heap.size + 1 < gb := (by rw [← hgb]; exact (Array.getElem?_eq_some_iff.1 ZP.out).1)
            replace ZS : Hid (u45.heap[w.heap.size]? = some (.cells #[.int .i64 sc, .string sr, .int .i64 sv, .slice A0 f.length c0, .string sb, .int .i64 st, .slice B0 n0 m0] 37 (0, 0))) := (by show _ = _; rw [← hu45]; exact zero_more ZS.out)
            replace ZP : Hid (u45.heap[w.heap.size + 1]? = some (.cells #[.int .i64 pc, .string pr, .int .i64 pv, .slice A1 g.length c1, .string pb] 26 (0, 0))) := (by show _ = _; rw [← hu45]; exact zero_more ZP.out)
            have Tgb : Hid (u45.heap[gb]? = some (.cells #[.int .i64 0, .string ⟨#[]⟩, .int .i64 0, .slice none 0 0, .string ⟨#[]⟩, .int .i64 0, .slice none 0 0] 37 (0, 0))) := (by show _ = _; rw [← hu45, ← hgb]; exact heap_alloc_new u1 _)
            have dHKPgb : DisA B0 n0 gb := HKP.out.dis (by rw [← hgb]; exact Nat.le_refl _)
            replace HKP := Lib.hid (HKP.out.alloc (.cells #[.int .i64 0, .string ⟨#[]⟩, .int .i64 0, .slice none 0 0, .string ⟨#[]⟩, .int .i64 0, .slice none 0 0] 37))
            rw [hu45] at HKP
            have nbgb : w.heap.size ≤ gb := (by rw [← hgb]; exact HB.out.size)
            replace HB : Hid (Below w.heap.size w u45) := (by show Below _ _ _; rw [← hu45]; exact HB.out.alloc HB.out.size _)
            clear hu45 hgb
            refine hK.out _ _ (⟨(cel7 ZS.out).1, (cel7 ZS.out).2.1, (cel7 ZS.out).2.2.1, (cel7 ZS.out).2.2.2.1, (cel7 ZS.out).2.2.2.2.1, (cel7 ZS.out).2.2.2.2.2.1, (cel7 ZS.out).2.2.2.2.2.2, (cel5r ZP.out).1, (cel5r ZP.out).2.1, (cel5r ZP.out).2.2.1, (cel5r ZP.out).2.2.2.1, (cel5r ZP.out).2.2.2.2⟩) (fun hHeld => ?_)
            clear hK
            try simp only [Act.put, List.setIfInBounds_toArray, List.set_cons_zero, List.set_cons_succ]
            refine wpAnyH_ready (rs := [3, 8]) (by kernel_rfl) (by simp) (AllReadyH.cons rfl (fun K hK => ?_) (AllReadyH.cons rfl (fun K hK => ?_) AllReadyH.nil))
            · have hxgb : gb < u45.heap.size := (Array.getElem?_eq_some_iff.1 Tgb.out).1
              go_simp
              go_at_call 19
              refine (K1.out _ _ HB.out).mono ?_
              rintro e u46 ⟨X1, e1, D1, q1, k1, rfl, hSA, fSA, hKA, oKA, hb⟩
              replace ZS := Lib.hid (zero_still hb ZS.out)
              replace ZP := Lib.hid (zero_still hb ZP.out)
              replace Tgb := Lib.hid (zero_still hb Tgb.out)
              replace HKP := Lib.hid (HKP.out.below hb)
              have dSAgb : DisA X1 FM.length gb := fSA.dis _ hxgb
              have SA := Lib.hid hSA
              clear hSA
              have dKAgb : DisA D1 q1 gb := dis_or HK0.out hKA oKA nbgb hxgb
              have KA := Lib.hid hKA
              clear hKA
              replace HB := Lib.hid (below_then HB.out hb)
              clear hb
              try go_wp2_with fail
              refine hK.out _ _ (⟨(cel7 ZS.out).1, (cel7 ZS.out).2.1, (cel7 ZS.out).2.2.1, (cel7 ZS.out).2.2.2.1, (cel7 ZS.out).2.2.2.2.1, (cel7 ZS.out).2.2.2.2.2.1, (cel7 ZS.out).2.2.2.2.2.2, (cel5r ZP.out).1, (cel5r ZP.out).2.1, (cel5r ZP.out).2.2.1, (cel5r ZP.out).2.2.2.1, (cel5r ZP.out).2.2.2.2⟩) (fun hHeld => ?_)
              clear hK
              try simp only [Act.put, List.setIfInBounds_toArray, List.set_cons_zero, List.set_cons_succ]
              refine wpAnyH_ready (rs := [7, 8]) (by kernel_rfl) (by simp) (AllReadyH.cons rfl (fun K hK => ?_) (AllReadyH.cons rfl (fun K hK => ?_) AllReadyH.nil))
              · have hxgb : gb < u46.heap.size := (Array.getElem?_eq_some_iff.1 Tgb.out).1
                go_simp
                go_at_call 20
                refine (K2.out _ _ HB.out).mono ?_
                rintro e u47 ⟨X2, e2, rfl, hSB, fSB, hb⟩
                replace ZS := Lib.hid (zero_still hb ZS.out)
                replace ZP := Lib.hid (zero_still hb ZP.out)
                replace Tgb := Lib.hid (zero_still hb Tgb.out)
                replace HKP := Lib.hid (HKP.out.below hb)
                replace SA := Lib.hid (SA.out.below hb)
                replace KA := Lib.hid (KA.out.below hb)
                have dSBgb : DisA X2 FM.length gb := fSB.dis _ hxgb
                have SB := Lib.hid hSB
                clear hSB
                replace HB := Lib.hid (below_then HB.out hb)
                clear hb
                try go_wp2_with fail
                refine hK.out _ _ (⟨(cel7 ZS.out).1, (cel7 ZS.out).2.1, (cel7 ZS.out).2.2.1, (cel7 ZS.out).2.2.2.1, (cel7 ZS.out).2.2.2.2.1, (cel7 ZS.out).2.2.2.2.2.1, (cel7 ZS.out).2.2.2.2.2.2, (cel5r ZP.out).1, (cel5r ZP.out).2.1, (cel5r ZP.out).2.2.1, (cel5r ZP.out).2.2.2.1, (cel5r ZP.out).2.2.2.2⟩) (fun hHeld => ?_)
                clear hK
                try simp only [Act.put, List.setIfInBounds_toArray, List.set_cons_zero, List.set_cons_succ]
                refine wpAnyH_ready (rs := [8]) (by kernel_rfl) (by simp) (AllReadyH.cons rfl (fun K hK => ?_) AllReadyH.nil)
                go_simp
                obtain ⟨u48, hu48⟩ : ∃ W, u47.alloc (.cells #[.int .i64 0, .string ⟨#[]⟩, .int .i64 0, .slice none 0 0, .string ⟨#[]⟩, .int .i64 0, .slice none 0 0] 37) = W := ⟨_, rfl⟩
                obtain ⟨ga, hga⟩ : ∃ g, u47.heap.size = g := ⟨_, rfl⟩
                rw [hu48, hga]
                have nZSga : w.heap.size < ga := (by rw [← hga]; exact (Array.getElem?_eq_some_iff.1 ZS.out).1)
                have nZPga : w.heap.size + 1 < ga := (by rw [← hga]; exact (Array.getElem?_eq_some_iff.1 ZP.out).1)
                have nTgbga : gb < ga := (by rw [← hga]; exact (Array.getElem?_eq_some_iff.1 Tgb.out).1)
                replace ZS : Hid (u48.heap[w.heap.size]? = some (.cells #[.int .i64 sc, .string sr, .int .i64 sv, .slice A0 f.length c0, .string sb, .int .i64 st, .slice B0 n0 m0] 37 (0, 0))) := (by show _ = _; rw [← hu48]; exact zero_more ZS.out)
                replace ZP : Hid (u48.heap[w.heap.size + 1]? = some (.cells #[.int .i64 pc, .string pr, .int .i64 pv, .slice A1 g.length c1, .string pb] 26 (0, 0))) := (by show _ = _; rw [← hu48]; exact zero_more ZP.out)
                replace Tgb : Hid (u48.heap[gb]? = some (.cells #[.int .i64 0, .string ⟨#[]⟩, .int .i64 0, .slice none 0 0, .string ⟨#[]⟩, .int .i64 0, .slice none 0 0] 37 (0, 0))) := (by show _ = _; rw [← hu48]; exact zero_more Tgb.out)
                have Tga : Hid (u48.heap[ga]? = some (.cells #[.int .i64 0, .string ⟨#[]⟩, .int .i64 0, .slice none 0 0, .string ⟨#[]⟩, .int .i64 0, .slice none 0 0] 37 (0, 0))) := (by show _ = _; rw [← hu48, ← hga]; exact heap_alloc_new u47 _)
                have dHKPga : DisA B0 n0 ga := HKP.out.dis (by rw [← hga]; exact Nat.le_refl _)
                replace HKP := Lib.hid (HKP.out.alloc (.cells #[.int .i64 0, .string ⟨#[]⟩, .int .i64 0, .slice none 0 0, .string ⟨#[]⟩, .int .i64 0, .slice none 0 0] 37))
                rw [hu48] at HKP
                have dSAga : DisA X1 FM.length ga := SA.out.dis (by rw [← hga]; exact Nat.le_refl _)
                replace SA := Lib.hid (SA.out.alloc (.cells #[.int .i64 0, .string ⟨#[]⟩, .int .i64 0, .slice none 0 0, .string ⟨#[]⟩, .int .i64 0, .slice none 0 0] 37))
                rw [hu48] at SA
                have dKAga : DisA D1 q1 ga := KA.out.dis (by rw [← hga]; exact Nat.le_refl _)
                replace KA := Lib.hid (KA.out.alloc (.cells #[.int .i64 0, .string ⟨#[]⟩, .int .i64 0, .slice none 0 0, .string ⟨#[]⟩, .int .i64 0, .slice none 0 0] 37))
                rw [hu48] at KA
                have dSBga : DisA X2 FM.length ga := SB.out.dis (by rw [← hga]; exact Nat.le_refl _)
                replace SB := Lib.hid (SB.out.alloc (.cells #[.int .i64 0, .string ⟨#[]⟩, .int .i64 0, .slice none 0 0, .string ⟨#[]⟩, .int .i64 0, .slice none 0 0] 37))
                rw [hu48] at SB
                have nbga : w.heap.size ≤ ga := (by rw [← hga]; exact HB.out.size)
                replace HB : Hid (Below w.heap.size w u48) := (by show Below _ _ _; rw [← hu48]; exact HB.out.alloc HB.out.size _)
                clear hu48 hga
                refine hK.out _ _ (⟨(cel7 ZS.out).1, (cel7 ZS.out).2.1, (cel7 ZS.out).2.2.1, (cel7 ZS.out).2.2.2.1, (cel7 ZS.out).2.2.2.2.1, (cel7 ZS.out).2.2.2.2.2.1, (cel7 ZS.out).2.2.2.2.2.2, (cel5r ZP.out).1, (cel5r ZP.out).2.1, (cel5r ZP.out).2.2.1, (cel5r ZP.out).2.2.2.1, (cel5r ZP.out).2.2.2.2⟩) (fun hHeld => ?_)
                clear hK
                try simp only [Act.put, List.setIfInBounds_toArray, List.set_cons_zero, List.set_cons_succ]
                refine wpAnyH_ready (rs := [10]) (by kernel_rfl) (by simp) (AllReadyH.cons rfl (fun K hK => ?_) AllReadyH.nil)
                refine step_store_row rfl _ _ _ rfl ga #[.int .i64 sc, .string sr, .int .i64 sv, .slice X1 FM.length e1, .string sb, .int .i64 now, .slice D1 q1 k1] rfl rfl 37 #[.int .i64 0, .string ⟨#[]⟩, .int .i64 0, .slice none 0 0, .string ⟨#[]⟩, .int .i64 0, .slice none 0 0] Tga.out (by kernel_rfl) rfl (by simp [Value.oneCell']) ?_
                obtain ⟨u49, hu49⟩ : ∃ W, u48.setRow ga #[.int .i64 sc, .string sr, .int .i64 sv, .slice X1 FM.length e1, .string sb, .int .i64 now, .slice D1 q1 k1] = W := ⟨_, rfl⟩
                rw [hu49]
                replace ZS : Hid (u49.heap[w.heap.size]? = some (.cells #[.int .i64 sc, .string sr, .int .i64 sv, .slice A0 f.length c0, .string sb, .int .i64 st, .slice B0 n0 m0] 37 (0, 0))) := (by show _ = _; rw [← hu49, setRow_other _ _ _ _ (by omega)]; exact ZS.out)
                replace ZP : Hid (u49.heap[w.heap.size + 1]? = some (.cells #[.int .i64 pc, .string pr, .int .i64 pv, .slice A1 g.length c1, .string pb] 26 (0, 0))) := (by show _ = _; rw [← hu49, setRow_other _ _ _ _ (by omega)]; exact ZP.out)
                replace Tgb : Hid (u49.heap[gb]? = some (.cells #[.int .i64 0, .string ⟨#[]⟩, .int .i64 0, .slice none 0 0, .string ⟨#[]⟩, .int .i64 0, .slice none 0 0] 37 (0, 0))) := (by show _ = _; rw [← hu49, setRow_other _ _ _ _ (by omega)]; exact Tgb.out)
                replace HKP := Lib.hid (HKP.out.setRowD dHKPga #[.int .i64 sc, .string sr, .int .i64 sv, .slice X1 FM.length e1, .string sb, .int .i64 now, .slice D1 q1 k1])
                rw [hu49] at HKP
                replace SA := Lib.hid (SA.out.setRowD dSAga #[.int .i64 sc, .string sr, .int .i64 sv, .slice X1 FM.length e1, .string sb, .int .i64 now, .slice D1 q1 k1])
                rw [hu49] at SA
                replace KA := Lib.hid (KA.out.setRowD dKAga #[.int .i64 sc, .string sr, .int .i64 sv, .slice X1 FM.length e1, .string sb, .int .i64 now, .slice D1 q1 k1])
                rw [hu49] at KA
                replace SB := Lib.hid (SB.out.setRowD dSBga #[.int .i64 sc, .string sr, .int .i64 sv, .slice X1 FM.length e1, .string sb, .int .i64 now, .slice D1 q1 k1])
                rw [hu49] at SB
                replace Tga : Hid (u49.heap[ga]? = some (.cells #[.int .i64 sc, .string sr, .int .i64 sv, .slice X1 FM.length e1, .string sb, .int .i64 now, .slice D1 q1 k1] 37 (0, 0))) := (by show _ = _; rw [← hu49]; exact setRow_heap _ _ _ _ _ _ Tga.out)
                replace HB : Hid (Below w.heap.size w u49) := (by show Below _ _ _; rw [← hu49]; exact below_setRow HB.out nbga _)
                clear hu49
                refine hK.out _ _ (⟨(cel7 ZS.out).1, (cel7 ZS.out).2.1, (cel7 ZS.out).2.2.1, (cel7 ZS.out).2.2.2.1, (cel7 ZS.out).2.2.2.2.1, (cel7 ZS.out).2.2.2.2.2.1, (cel7 ZS.out).2.2.2.2.2.2, (cel5r ZP.out).1, (cel5r ZP.out).2.1, (cel5r ZP.out).2.2.1, (cel5r ZP.out).2.2.2.1, (cel5r ZP.out).2.2.2.2⟩) (fun hHeld => ?_)
                clear hK
                try simp only [Act.put, List.setIfInBounds_toArray, List.set_cons_zero, List.set_cons_succ]
                refine wpAnyH_ready (rs := [11]) (by kernel_rfl) (by simp) (AllReadyH.cons rfl (fun K hK => ?_) AllReadyH.nil)
                refine step_store_row rfl _ _ _ rfl gb #[.int .i64 sc, .string sr, .int .i64 sv, .slice X2 FM.length e2, .string sb, .int .i64 now, .slice B0 n0 m0] rfl rfl 37 #[.int .i64 0, .string ⟨#[]⟩, .int .i64 0, .slice none 0 0, .string ⟨#[]⟩, .int .i64 0, .slice none 0 0] Tgb.out (by kernel_rfl) rfl (by simp [Value.oneCell']) ?_
                obtain ⟨u50, hu50⟩ : ∃ W, u49.setRow gb #[.int .i64 sc, .string sr, .int .i64 sv, .slice X2 FM.length e2, .string sb, .int .i64 now, .slice B0 n0 m0] = W := ⟨_, rfl⟩
                rw [hu50]
                replace ZS : Hid (u50.heap[w.heap.size]? = some (.cells #[.int .i64 sc, .string sr, .int .i64 sv, .slice A0 f.length c0, .string sb, .int .i64 st, .slice B0 n0 m0] 37 (0, 0))) := (by show _ = _; rw [← hu50, setRow_other _ _ _ _ (by omega)]; exact ZS.out)
                replace ZP : Hid (u50.heap[w.heap.size + 1]? = some (.cells #[.int .i64 pc, .string pr, .int .i64 pv, .slice A1 g.length c1, .string pb] 26 (0, 0))) := (by show _ = _; rw [← hu50, setRow_other _ _ _ _ (by omega)]; exact ZP.out)
                replace Tga : Hid (u50.heap[ga]? = some (.cells #[.int .i64 sc, .string sr, .int .i64 sv, .slice X1 FM.length e1, .string sb, .int .i64 now, .slice D1 q1 k1] 37 (0, 0))) := (by show _ = _; rw [← hu50, setRow_other _ _ _ _ (by omega)]; exact Tga.out)
                replace HKP := Lib.hid (HKP.out.setRowD dHKPgb #[.int .i64 sc, .string sr, .int .i64 sv, .slice X2 FM.length e2, .string sb, .int .i64 now, .slice B0 n0 m0])
                rw [hu50] at HKP
                replace SA := Lib.hid (SA.out.setRowD dSAgb #[.int .i64 sc, .string sr, .int .i64 sv, .slice X2 FM.length e2, .string sb, .int .i64 now, .slice B0 n0 m0])
                rw [hu50] at SA
                replace KA := Lib.hid (KA.out.setRowD dKAgb #[.int .i64 sc, .string sr, .int .i64 sv, .slice X2 FM.length e2, .string sb, .int .i64 now, .slice B0 n0 m0])
                rw [hu50] at KA
                replace SB := Lib.hid (SB.out.setRowD dSBgb #[.int .i64 sc, .string sr, .int .i64 sv, .slice X2 FM.length e2, .string sb, .int .i64 now, .slice B0 n0 m0])
                rw [hu50] at SB
                replace Tgb : Hid (u50.heap[gb]? = some (.cells #[.int .i64 sc, .string sr, .int .i64 sv, .slice X2 FM.length e2, .string sb, .int .i64 now, .slice B0 n0 m0] 37 (0, 0))) := (by show _ = _; rw [← hu50]; exact setRow_heap _ _ _ _ _ _ Tgb.out)
                replace HB : Hid (Below w.heap.size w u50) := (by show Below _ _ _; rw [← hu50]; exact below_setRow HB.out nbgb _)
                clear hu50
                refine hK.out _ _ (⟨(cel7 ZS.out).1, (cel7 ZS.out).2.1, (cel7 ZS.out).2.2.1, (cel7 ZS.out).2.2.2.1, (cel7 ZS.out).2.2.2.2.1, (cel7 ZS.out).2.2.2.2.2.1, (cel7 ZS.out).2.2.2.2.2.2, (cel5r ZP.out).1, (cel5r ZP.out).2.1, (cel5r ZP.out).2.2.1, (cel5r ZP.out).2.2.2.1, (cel5r ZP.out).2.2.2.2⟩) (fun hHeld => ?_)
                clear hK
                try simp only [Act.put, List.setIfInBounds_toArray, List.set_cons_zero, List.set_cons_succ]
                refine wpAnyH_done (by kernel_rfl) ?_ _
                go_wp2_with fail
                go_meet
                exact ⟨ga, gb, X1, e1, D1, q1, k1, X2, e2, rfl, rfl, KA.out.len.symm.trans HKL.out, Tga.out, Tgb.out, ZS.out, ZP.out, SA.out, SB.out, KA.out, HKP.out, HB.out⟩
              · go_simp
                obtain ⟨u51, hu51⟩ : ∃ W, u46.alloc (.cells #[.int .i64 0, .string ⟨#[]⟩, .int .i64 0, .slice none 0 0, .string ⟨#[]⟩, .int .i64 0, .slice none 0 0] 37) = W := ⟨_, rfl⟩
                obtain ⟨ga, hga⟩ : ∃ g, u46.heap.size = g := ⟨_, rfl⟩
                rw [hu51, hga]
                have nZSga : w.heap.size < ga := (by rw [← hga]; exact (Array.getElem?_eq_some_iff.1 ZS.out).1)
                have nZPga : w.heap.size + 1 < ga := (by rw [← hga]; exact (Array.getElem?_eq_some_iff.1 ZP.out).1)
                have nTgbga : gb < ga := (by rw [← hga]; exact (Array.getElem?_eq_some_iff.1 Tgb.out).1)
                replace ZS : Hid (u51.heap[w.heap.size]? = some (.cells #[.int .i64 sc, .string sr, .int .i64 sv, .slice A0 f.length c0, .string sb, .int .i64 st, .slice B0 n0 m0] 37 (0, 0))) := (by show _ = _; rw [← hu51]; exact zero_more ZS.out)
                replace ZP : Hid (u51.heap[w.heap.size + 1]? = some (.cells #[.int .i64 pc, .string pr, .int .i64 pv, .slice A1 g.length c1, .string pb] 26 (0, 0))) := (by show _ = _; rw [← hu51]; exact zero_more ZP.out)
                replace Tgb : Hid (u51.heap[gb]? = some (.cells #[.int .i64 0, .string ⟨#[]⟩, .int .i64 0, .slice none 0 0, .string ⟨#[]⟩, .int .i64 0, .slice none 0 0] 37 (0, 0))) := (by show _ = _; rw [← hu51]; exact zero_more Tgb.out)
                have Tga : Hid (u51.heap[ga]? = some (.cells #[.int .i64 0, .string ⟨#[]⟩, .int .i64 0, .slice none 0 0, .string ⟨#[]⟩, .int .i64 0, .slice none 0 0] 37 (0, 0))) := (by show _ = _; rw [← hu51, ← hga]; exact heap_alloc_new u46 _)
                have dHKPga : DisA B0 n0 ga := HKP.out.dis (by rw [← hga]; exact Nat.le_refl _)
                replace HKP := Lib.hid (HKP.out.alloc (.cells #[.int .i64 0, .string ⟨#[]⟩, .int .i64 0, .slice none 0 0, .string ⟨#[]⟩, .int .i64 0, .slice none 0 0] 37))
                rw [hu51] at HKP
                have dSAga : DisA X1 FM.length ga := SA.out.dis (by rw [← hga]; exact Nat.le_refl _)
                replace SA := Lib.hid (SA.out.alloc (.cells #[.int .i64 0, .string ⟨#[]⟩, .int .i64 0, .slice none 0 0, .string ⟨#[]⟩, .int .i64 0, .slice none 0 0] 37))
                rw [hu51] at SA
                have dKAga : DisA D1 q1 ga := KA.out.dis (by rw [← hga]; exact Nat.le_refl _)
                replace KA := Lib.hid (KA.out.alloc (.cells #[.int .i64 0, .string ⟨#[]⟩, .int .i64 0, .slice none 0 0, .string ⟨#[]⟩, .int .i64 0, .slice none 0 0] 37))
                rw [hu51] at KA
                have nbga : w.heap.size ≤ ga := (by rw [← hga]; exact HB.out.size)
                replace HB : Hid (Below w.heap.size w u51) := (by show Below _ _ _; rw [← hu51]; exact HB.out.alloc HB.out.size _)
                clear hu51 hga
                refine hK.out _ _ (⟨(cel7 ZS.out).1, (cel7 ZS.out).2.1, (cel7 ZS.out).2.2.1, (cel7 ZS.out).2.2.2.1, (cel7 ZS.out).2.2.2.2.1, (cel7 ZS.out).2.2.2.2.2.1, (cel7 ZS.out).2.2.2.2.2.2, (cel5r ZP.out).1, (cel5r ZP.out).2.1, (cel5r ZP.out).2.2.1, (cel5r ZP.out).2.2.2.1, (cel5r ZP.out).2.2.2.2⟩) (fun hHeld => ?_)
                clear hK
                try simp only [Act.put, List.setIfInBounds_toArray, List.set_cons_zero, List.set_cons_succ]
                refine wpAnyH_ready (rs := [7]) (by kernel_rfl) (by simp) (AllReadyH.cons rfl (fun K hK => ?_) AllReadyH.nil)
                have hxgb : gb < u51.heap.size := (Array.getElem?_eq_some_iff.1 Tgb.out).1
                have hxga : ga < u51.heap.size := (Array.getElem?_eq_some_iff.1 Tga.out).1
                go_simp
                go_at_call 20
                refine (K2.out _ _ HB.out).mono ?_
                rintro e u52 ⟨X2, e2, rfl, hSB, fSB, hb⟩
                replace ZS := Lib.hid (zero_still hb ZS.out)
                replace ZP := Lib.hid (zero_still hb ZP.out)
                replace Tgb := Lib.hid (zero_still hb Tgb.out)
                replace Tga := Lib.hid (zero_still hb Tga.out)
                replace HKP := Lib.hid (HKP.out.below hb)
                replace SA := Lib.hid (SA.out.below hb)
                replace KA := Lib.hid (KA.out.below hb)
                have dSBgb : DisA X2 FM.length gb := fSB.dis _ hxgb
                have dSBga : DisA X2 FM.length ga := fSB.dis _ hxga
                have SB := Lib.hid hSB
                clear hSB
                replace HB := Lib.hid (below_then HB.out hb)
                clear hb
                try go_wp2_with fail
                refine hK.out _ _ (⟨(cel7 ZS.out).1, (cel7 ZS.out).2.1, (cel7 ZS.out).2.2.1, (cel7 ZS.out).2.2.2.1, (cel7 ZS.out).2.2.2.2.1, (cel7 ZS.out).2.2.2.2.2.1, (cel7 ZS.out).2.2.2.2.2.2, (cel5r ZP.out).1, (cel5r ZP.out).2.1, (cel5r ZP.out).2.2.1, (cel5r ZP.out).2.2.2.1, (cel5r ZP.out).2.2.2.2⟩) (fun hHeld => ?_)
                clear hK
                try simp only [Act.put, List.setIfInBounds_toArray, List.set_cons_zero, List.set_cons_succ]
                refine wpAnyH_ready (rs := [10]) (by kernel_rfl) (by simp) (AllReadyH.cons rfl (fun K hK => ?_) AllReadyH.nil)
                refine step_store_row rfl _ _ _ rfl ga #[.int .i64 sc, .string sr, .int .i64 sv, .slice X1 FM.length e1, .string sb, .int .i64 now, .slice D1 q1 k1] rfl rfl 37 #[.int .i64 0, .string ⟨#[]⟩, .int .i64 0, .slice none 0 0, .string ⟨#[]⟩, .int .i64 0, .slice none 0 0] Tga.out (by kernel_rfl) rfl (by simp [Value.oneCell']) ?_
                obtain ⟨u53, hu53⟩ : ∃ W, u52.setRow ga #[.int .i64 sc, .string sr, .int .i64 sv, .slice X1 FM.length e1, .string sb, .int .i64 now, .slice D1 q1 k1] = W := ⟨_, rfl⟩
                rw [hu53]
                replace ZS : Hid (u53.heap[w.heap.size]? = some (.cells #[.int .i64 sc, .string sr, .int .i64 sv, .slice A0 f.length c0, .string sb, .int .i64 st, .slice B0 n0 m0] 37 (0, 0))) := (by show _ = _; rw [← hu53, setRow_other _ _ _ _ (by omega)]; exact ZS.out)
                replace ZP : Hid (u53.heap[w.heap.size + 1]? = some (.cells #[.int .i64 pc, .string pr, .int .i64 pv, .slice A1 g.length c1, .string pb] 26 (0, 0))) := (by show _ = _; rw [← hu53, setRow_other _ _ _ _ (by omega)]; exact ZP.out)
                replace Tgb : Hid (u53.heap[gb]? = some (.cells #[.int .i64 0, .string ⟨#[]⟩, .int .i64 0, .slice none 0 0, .string ⟨#[]⟩, .int .i64 0, .slice none 0 0] 37 (0, 0))) := (by show _ = _; rw [← hu53, setRow_other _ _ _ _ (by omega)]; exact Tgb.out)
                replace HKP := Lib.hid (HKP.out.setRowD dHKPga #[.int .i64 sc, .string sr, .int .i64 sv, .slice X1 FM.length e1, .string sb, .int .i64 now, .slice D1 q1 k1])
                rw [hu53] at HKP
                replace SA := Lib.hid (SA.out.setRowD dSAga #[.int .i64 sc, .string sr, .int .i64 sv, .slice X1 FM.length e1, .string sb, .int .i64 now, .slice D1 q1 k1])
                rw [hu53] at SA
                replace KA := Lib.hid (KA.out.setRowD dKAga #[.int .i64 sc, .string sr, .int .i64 sv, .slice X1 FM.length e1, .string sb, .int .i64 now, .slice D1 q1 k1])
                rw [hu53] at KA
                replace SB := Lib.hid (SB.out.setRowD dSBga #[.int .i64 sc, .string sr, .int .i64 sv, .slice X1 FM.length e1, .string sb, .int .i64 now, .slice D1 q1 k1])
                rw [hu53] at SB
                replace Tga : Hid (u53.heap[ga]? = some (.cells #[.int .i64 sc, .string sr, .int .i64 sv, .slice X1 FM.length e1, .string sb, .int .i64 now, .slice D1 q1 k1] 37 (0, 0))) := (by show _ = _; rw [← hu53]; exact setRow_heap _ _ _ _ _ _ Tga.out)
                replace HB : Hid (Below w.heap.size w u53) := (by show Below _ _ _; rw [← hu53]; exact below_setRow HB.out nbga _)
                clear hu53
                refine hK.out _ _ (⟨(cel7 ZS.out).1, (cel7 ZS.out).2.1, (cel7 ZS.out).2.2.1, (cel7 ZS.out).2.2.2.1, (cel7 ZS.out).2.2.2.2.1, (cel7 ZS.out).2.2.2.2.2.1, (cel7 ZS.out).2.2.2.2.2.2, (cel5r ZP.out).1, (cel5r ZP.out).2.1, (cel5r ZP.out).2.2.1, (cel5r ZP.out).2.2.2.1, (cel5r ZP.out).2.2.2.2⟩) (fun hHeld => ?_)
                clear hK
                try simp only [Act.put, List.setIfInBounds_toArray, List.set_cons_zero, List.set_cons_succ]
                refine wpAnyH_ready (rs := [11]) (by kernel_rfl) (by simp) (AllReadyH.cons rfl (fun K hK => ?_) AllReadyH.nil)
                refine step_store_row rfl _ _ _ rfl gb #[.int .i64 sc, .string sr, .int .i64 sv, .slice X2 FM.length e2, .string sb, .int .i64 now, .slice B0 n0 m0] rfl rfl 37 #[.int .i64 0, .string ⟨#[]⟩, .int .i64 0, .slice none 0 0, .string ⟨#[]⟩, .int .i64 0, .slice none 0 0] Tgb.out (by kernel_rfl) rfl (by simp [Value.oneCell']) ?_
                obtain ⟨u54, hu54⟩ : ∃ W, u53.setRow gb #[.int .i64 sc, .string sr, .int .i64 sv, .slice X2 FM.length e2, .string sb, .int .i64 now, .slice B0 n0 m0] = W := ⟨_, rfl⟩
                rw [hu54]
                replace ZS : Hid (u54.heap[w.heap.size]? = some (.cells #[.int .i64 sc, .string sr, .int .i64 sv, .slice A0 f.length c0, .string sb, .int .i64 st, .slice B0 n0 m0] 37 (0, 0))) := (by show _ = _; rw [← hu54, setRow_other _ _ _ _ (by omega)]; exact ZS.out)
                replace ZP : Hid (u54.heap[w.heap.size + 1]? = some (.cells #[.int .i64 pc, .string pr, .int .i64 pv, .slice A1 g.length c1, .string pb] 26 (0, 0))) := (by show _ = _; rw [← hu54, setRow_other _ _ _ _ (by omega)]; exact ZP.out)
                replace Tga : Hid (u54.heap[ga]? = some (.cells #[.int .i64 sc, .string sr, .int .i64 sv, .slice X1 FM.length e1, .string sb, .int .i64 now, .slice D1 q1 k1] 37 (0, 0))) := (by show _ = _; rw [← hu54, setRow_other _ _ _ _ (by omega)]; exact Tga.out)
                replace HKP := Lib.hid (HKP.out.setRowD dHKPgb #[.int .i64 sc, .string sr, .int .i64 sv, .slice X2 FM.length e2, .string sb, .int .i64 now, .slice B0 n0 m0])
                rw [hu54] at HKP
                replace SA := Lib.hid (SA.out.setRowD dSAgb #[.int .i64 sc, .string sr, .int .i64 sv, .slice X2 FM.length e2, .string sb, .int .i64 now, .slice B0 n0 m0])
                rw [hu54] at SA
                replace KA := Lib.hid (KA.out.setRowD dKAgb #[.int .i64 sc, .string sr, .int .i64 sv, .slice X2 FM.length e2, .string sb, .int .i64 now, .slice B0 n0 m0])
                rw [hu54] at KA
                replace SB := Lib.hid (SB.out.setRowD dSBgb #[.int .i64 sc, .string sr, .int .i64 sv, .slice X2 FM.length e2, .string sb, .int .i64 now, .slice B0 n0 m0])
                rw [hu54] at SB
                replace Tgb : Hid (u54.heap[gb]? = some (.cells #[.int .i64 sc, .string sr, .int .i64 sv, .slice X2 FM.length e2, .string sb, .int .i64 now, .slice B0 n0 m0] 37 (0, 0))) := (by show _ = _; rw [← hu54]; exact setRow_heap _ _ _ _ _ _ Tgb.out)
                replace HB : Hid (Below w.heap.size w u54) := (by show Below _ _ _; rw [← hu54]; exact below_setRow HB.out nbgb _)
                clear hu54
                refine hK.out _ _ (⟨(cel7 ZS.out).1, (cel7 ZS.out).2.1, (cel7 ZS.out).2.2.1, (cel7 ZS.out).2.2.2.1, (cel7 ZS.out).2.2.2.2.1, (cel7 ZS.out).2.2.2.2.2.1, (cel7 ZS.out).2.2.2.2.2.2, (cel5r ZP.out).1, (cel5r ZP.out).2.1, (cel5r ZP.out).2.2.1, (cel5r ZP.out).2.2.2.1, (cel5r ZP.out).2.2.2.2⟩) (fun hHeld => ?_)
                clear hK
                try simp only [Act.put, List.setIfInBounds_toArray, List.set_cons_zero, List.set_cons_succ]
                refine wpAnyH_done (by kernel_rfl) ?_ _
                go_wp2_with fail
                go_meet
                exact ⟨ga, gb, X1, e1, D1, q1, k1, X2, e2, rfl, rfl, KA.out.len.symm.trans HKL.out, Tga.out, Tgb.out, ZS.out, ZP.out, SA.out, SB.out, KA.out, HKP.out, HB.out⟩
            · go_simp
              obtain ⟨u55, hu55⟩ : ∃ W, u45.alloc (.cells #[.int .i64 0, .string ⟨#[]⟩, .int .i64 0, .slice none 0 0, .string ⟨#[]⟩, .int .i64 0, .slice none 0 0] 37) = W := ⟨_, rfl⟩
              obtain ⟨ga, hga⟩ : ∃ g, u45.heap.size = g := ⟨_, rfl⟩
              rw [hu55, hga]
              have nZSga : w.heap.size < ga := (by rw [← hga]; exact (Array.getElem?_eq_some_iff.1 ZS.out).1)
              have nZPga : w.heap.size + 1 < ga := (by rw [← hga]; exact (Array.getElem?_eq_some_iff.1 ZP.out).1)
              have nTgbga : gb < ga := (by rw [← hga]; exact (Array.getElem?_eq_some_iff.1 Tgb.out).1)
              replace ZS : Hid (u55.heap[w.heap.size]? = some (.cells #[.int .i64 sc, .string sr, .int .i64 sv, .slice A0 f.length c0, .string sb, .int .i64 st, .slice B0 n0 m0] 37 (0, 0))) := (by show _ = _; rw [← hu55]; exact zero_more ZS.out)
              replace ZP : Hid (u55.heap[w.heap.size + 1]? = some (.cells #[.int .i64 pc, .string pr, .int .i64 pv, .slice A1 g.length c1, .string pb] 26 (0, 0))) := (by show _ = _; rw [← hu55]; exact zero_more ZP.out)
              replace Tgb : Hid (u55.heap[gb]? = some (.cells #[.int .i64 0, .string ⟨#[]⟩, .int .i64 0, .slice none 0 0, .string ⟨#[]⟩, .int .i64 0, .slice none 0 0] 37 (0, 0))) := (by show _ = _; rw [← hu55]; exact zero_more Tgb.out)
              have Tga : Hid (u55.heap[ga]? = some (.cells #[.int .i64 0, .string ⟨#[]⟩, .int .i64 0, .slice none 0 0, .string ⟨#[]⟩, .int .i64 0, .slice none 0 0] 37 (0, 0))) := (by show _ = _; rw [← hu55, ← hga]; exact heap_alloc_new u45 _)
              have dHKPga : DisA B0 n0 ga := HKP.out.dis (by rw [← hga]; exact Nat.le_refl _)
              replace HKP := Lib.hid (HKP.out.alloc (.cells #[.int .i64 0, .string ⟨#[]⟩, .int .i64 0, .slice none 0 0, .string ⟨#[]⟩, .int .i64 0, .slice none 0 0] 37))
              rw [hu55] at HKP
              have nbga : w.heap.size ≤ ga := (by rw [← hga]; exact HB.out.size)
              replace HB : Hid (Below w.heap.size w u55) := (by show Below _ _ _; rw [← hu55]; exact HB.out.alloc HB.out.size _)
              clear hu55 hga
              refine hK.out _ _ (⟨(cel7 ZS.out).1, (cel7 ZS.out).2.1, (cel7 ZS.out).2.2.1, (cel7 ZS.out).2.2.2.1, (cel7 ZS.out).2.2.2.2.1, (cel7 ZS.out).2.2.2.2.2.1, (cel7 ZS.out).2.2.2.2.2.2, (cel5r ZP.out).1, (cel5r ZP.out).2.1, (cel5r ZP.out).2.2.1, (cel5r ZP.out).2.2.2.1, (cel5r ZP.out).2.2.2.2⟩) (fun hHeld => ?_)
              clear hK
              try simp only [Act.put, List.setIfInBounds_toArray, List.set_cons_zero, List.set_cons_succ]
              refine wpAnyH_ready (rs := [3]) (by kernel_rfl) (by simp) (AllReadyH.cons rfl (fun K hK => ?_) AllReadyH.nil)
              have hxgb : gb < u55.heap.size := (Array.getElem?_eq_some_iff.1 Tgb.out).1
              have hxga : ga < u55.heap.size := (Array.getElem?_eq_some_iff.1 Tga.out).1
              go_simp
              go_at_call 19
              refine (K1.out _ _ HB.out).mono ?_
              rintro e u56 ⟨X1, e1, D1, q1, k1, rfl, hSA, fSA, hKA, oKA, hb⟩
              replace ZS := Lib.hid (zero_still hb ZS.out)
              replace ZP := Lib.hid (zero_still hb ZP.out)
              replace Tgb := Lib.hid (zero_still hb Tgb.out)
              replace Tga := Lib.hid (zero_still hb Tga.out)
              replace HKP := Lib.hid (HKP.out.below hb)
              have dSAgb : DisA X1 FM.length gb := fSA.dis _ hxgb
              have dSAga : DisA X1 FM.length ga := fSA.dis _ hxga
              have SA := Lib.hid hSA
              clear hSA
              have dKAgb : DisA D1 q1 gb := dis_or HK0.out hKA oKA nbgb hxgb
              have dKAga : DisA D1 q1 ga := dis_or HK0.out hKA oKA nbga hxga
              have KA := Lib.hid hKA
              clear hKA
              replace HB := Lib.hid (below_then HB.out hb)
              clear hb
              try go_wp2_with fail
              refine hK.out _ _ (⟨(cel7 ZS.out).1, (cel7 ZS.out).2.1, (cel7 ZS.out).2.2.1, (cel7 ZS.out).2.2.2.1, (cel7 ZS.out).2.2.2.2.1, (cel7 ZS.out).2.2.2.2.2.1, (cel7 ZS.out).2.2.2.2.2.2, (cel5r ZP.out).1, (cel5r ZP.out).2.1, (cel5r ZP.out).2.2.1, (cel5r ZP.out).2.2.2.1, (cel5r ZP.out).2.2.2.2⟩) (fun hHeld => ?_)
              clear hK
              try simp only [Act.put, List.setIfInBounds_toArray, List.set_cons_zero, List.set_cons_succ]
              refine wpAnyH_ready (rs := [7]) (by kernel_rfl) (by simp) (AllReadyH.cons rfl (fun K hK => ?_) AllReadyH.nil)
              have hxgb : gb < u56.heap.size := (Array.getElem?_eq_some_iff.1 Tgb.out).1
              have hxga : ga < u56.heap.size := (Array.getElem?_eq_some_iff.1 Tga.out).1
              go_simp
              go_at_call 20
              refine (K2.out _ _ HB.out).mono ?_
              rintro e u57 ⟨X2, e2, rfl, hSB, fSB, hb⟩
              replace ZS := Lib.hid (zero_still hb ZS.out)
              replace ZP := Lib.hid (zero_still hb ZP.out)
              replace Tgb := Lib.hid (zero_still hb Tgb.out)
              replace Tga := Lib.hid (zero_still hb Tga.out)
              replace HKP := Lib.hid (HKP.out.below hb)
              replace SA := Lib.hid (SA.out.below hb)
              replace KA := Lib.hid (KA.out.below hb)
              have dSBgb : DisA X2 FM.length gb := fSB.dis _ hxgb
              have dSBga : DisA X2 FM.length ga := fSB.dis _ hxga
              have SB := Lib.hid hSB
              clear hSB
              replace HB := Lib.hid (below_then HB.out hb)
              clear hb
              try go_wp2_with fail
              refine hK.out _ _ (⟨(cel7 ZS.out).1, (cel7 ZS.out).2.1, (cel7 ZS.out).2.2.1, (cel7 ZS.out).2.2.2.1, (cel7 ZS.out).2.2.2.2.1, (cel7 ZS.out).2.2.2.2.2.1, (cel7 ZS.out).2.2.2.2.2.2, (cel5r ZP.out).1, (cel5r ZP.out).2.1, (cel5r ZP.out).2.2.1, (cel5r ZP.out).2.2.2.1, (cel5r ZP.out).2.2.2.2⟩) (fun hHeld => ?_)
              clear hK
              try simp only [Act.put, List.setIfInBounds_toArray, List.set_cons_zero, List.set_cons_succ]
              refine wpAnyH_ready (rs := [10]) (by kernel_rfl) (by simp) (AllReadyH.cons rfl (fun K hK => ?_) AllReadyH.nil)
              refine step_store_row rfl _ _ _ rfl ga #[.int .i64 sc, .string sr, .int .i64 sv, .slice X1 FM.length e1, .string sb, .int .i64 now, .slice D1 q1 k1] rfl rfl 37 #[.int .i64 0, .string ⟨#[]⟩, .int .i64 0, .slice none 0 0, .string ⟨#[]⟩, .int .i64 0, .slice none 0 0] Tga.out (by kernel_rfl) rfl (by simp [Value.oneCell']) ?_
              obtain ⟨u58, hu58⟩ : ∃ W, u57.setRow ga #[.int .i64 sc, .string sr, .int .i64 sv, .slice X1 FM.length e1, .string sb, .int .i64 now, .slice D1 q1 k1] = W := ⟨_, rfl⟩
              rw [hu58]
              replace ZS : Hid (u58.heap[w.heap.size]? = some (.cells #[.int .i64 sc, .string sr, .int .i64 sv, .slice A0 f.length c0, .string sb, .int .i64 st, .slice B0 n0 m0] 37 (0, 0))) := (by show _ = _; rw [← hu58, setRow_other _ _ _ _ (by omega)]; exact ZS.out)
              replace ZP : Hid (u58.heap[w.heap.size + 1]? = some (.cells #[.int .i64 pc, .string pr, .int .i64 pv, .slice A1 g.length c1, .string pb] 26 (0, 0))) := (by show _ = _; rw [← hu58, setRow_other _ _ _ _ (by omega)]; exact ZP.out)
              replace Tgb : Hid (u58.heap[gb]? = some (.cells #[.int .i64 0, .string ⟨#[]⟩, .int .i64 0, .slice none 0 0, .string ⟨#[]⟩, .int .i64 0, .slice none 0 0] 37 (0, 0))) := (by show _ = _; rw [← hu58, setRow_other _ _ _ _ (by omega)]; exact Tgb.out)
              replace HKP := Lib.hid (HKP.out.setRowD dHKPga #[.int .i64 sc, .string sr, .int .i64 sv, .slice X1 FM.length e1, .string sb, .int .i64 now, .slice D1 q1 k1])
              rw [hu58] at HKP
              replace SA := Lib.hid (SA.out.setRowD dSAga #[.int .i64 sc, .string sr, .int .i64 sv, .slice X1 FM.length e1, .string sb, .int .i64 now, .slice D1 q1 k1])
              rw [hu58] at SA
              replace KA := Lib.hid (KA.out.setRowD dKAga #[.int .i64 sc, .string sr, .int .i64 sv, .slice X1 FM.length e1, .string sb, .int .i64 now, .slice D1 q1 k1])
              rw [hu58] at KA
              replace SB := Lib.hid (SB.out.setRowD dSBga #[.int .i64 sc, .string sr, .int .i64 sv, .slice X1 FM.length e1, .string sb, .int .i64 now, .slice D1 q1 k1])
              rw [hu58] at SB
              replace Tga : Hid (u58.heap[ga]? = some (.cells #[.int .i64 sc, .string sr, .int .i64 sv, .slice X1 FM.length e1, .string sb, .int .i64 now, .slice D1 q1 k1] 37 (0, 0))) := (by show _ = _; rw [← hu58]; exact setRow_heap _ _ _ _ _ _ Tga.out)
              replace HB : Hid (Below w.heap.size w u58) := (by show Below _ _ _; rw [← hu58]; exact below_setRow HB.out nbga _)
              clear hu58
              refine hK.out _ _ (⟨(cel7 ZS.out).1, (cel7 ZS.out).2.1, (cel7 ZS.out).2.2.1, (cel7 ZS.out).2.2.2.1, (cel7 ZS.out).2.2.2.2.1, (cel7 ZS.out).2.2.2.2.2.1, (cel7 ZS.out).2.2.2.2.2.2, (cel5r ZP.out).1, (cel5r ZP.out).2.1, (cel5r ZP.out).2.2.1, (cel5r ZP.out).2.2.2.1, (cel5r ZP.out).2.2.2.2⟩) (fun hHeld => ?_)
              clear hK
              try simp only [Act.put, List.setIfInBounds_toArray, List.set_cons_zero, List.set_cons_succ]
              refine wpAnyH_ready (rs := [11]) (by kernel_rfl) (by simp) (AllReadyH.cons rfl (fun K hK => ?_) AllReadyH.nil)
              refine step_store_row rfl _ _ _ rfl gb #[.int .i64 sc, .string sr, .int .i64 sv, .slice X2 FM.length e2, .string sb, .int .i64 now, .slice B0 n0 m0] rfl rfl 37 #[.int .i64 0, .string ⟨#[]⟩, .int .i64 0, .slice none 0 0, .string ⟨#[]⟩, .int .i64 0, .slice none 0 0] Tgb.out (by kernel_rfl) rfl (by simp [Value.oneCell']) ?_
              obtain ⟨u59, hu59⟩ : ∃ W, u58.setRow gb #[.int .i64 sc, .string sr, .int .i64 sv, .slice X2 FM.length e2, .string sb, .int .i64 now, .slice B0 n0 m0] = W := ⟨_, rfl⟩
              rw [hu59]
              replace ZS : Hid (u59.heap[w.heap.size]? = some (.cells #[.int .i64 sc, .string sr, .int .i64 sv, .slice A0 f.length c0, .string sb, .int .i64 st, .slice B0 n0 m0] 37 (0, 0))) := (by show _ = _; rw [← hu59, setRow_other _ _ _ _ (by omega)]; exact ZS.out)
              replace ZP : Hid (u59.heap[w.heap.size + 1]? = some (.cells #[.int .i64 pc, .string pr, .int .i64 pv, .slice A1 g.length c1, .string pb] 26 (0, 0))) := (by show _ = _; rw [← hu59, setRow_other _ _ _ _ (by omega)]; exact ZP.out)
              replace Tga : Hid (u59.heap[ga]? = some (.cells #[.int .i64 sc, .string sr, .int .i64 sv, .slice X1 FM.length e1, .string sb, .int .i64 now, .slice D1 q1 k1] 37 (0, 0))) := (by show _ = _; rw [← hu59, setRow_other _ _ _ _ (by omega)]; exact Tga.out)
              replace HKP := Lib.hid (HKP.out.setRowD dHKPgb #[.int .i64 sc, .string sr, .int .i64 sv, .slice X2 FM.length e2, .string sb, .int .i64 now, .slice B0 n0 m0])
              rw [hu59] at HKP
              replace SA := Lib.hid (SA.out.setRowD dSAgb #[.int .i64 sc, .string sr, .int .i64 sv, .slice X2 FM.length e2, .string sb, .int .i64 now, .slice B0 n0 m0])
              rw [hu59] at SA
              replace KA := Lib.hid (KA.out.setRowD dKAgb #[.int .i64 sc, .string sr, .int .i64 sv, .slice X2 FM.length e2, .string sb, .int .i64 now, .slice B0 n0 m0])
              rw [hu59] at KA
              replace SB := Lib.hid (SB.out.setRowD dSBgb #[.int .i64 sc, .string sr, .int .i64 sv, .slice X2 FM.length e2, .string sb, .int .i64 now, .slice B0 n0 m0])
              rw [hu59] at SB
              replace Tgb : Hid (u59.heap[gb]? = some (.cells #[.int .i64 sc, .string sr, .int .i64 sv, .slice X2 FM.length e2, .string sb, .int .i64 now, .slice B0 n0 m0] 37 (0, 0))) := (by show _ = _; rw [← hu59]; exact setRow_heap _ _ _ _ _ _ Tgb.out)
              replace HB : Hid (Below w.heap.size w u59) := (by show Below _ _ _; rw [← hu59]; exact below_setRow HB.out nbgb _)
              clear hu59
              refine hK.out _ _ (⟨(cel7 ZS.out).1, (cel7 ZS.out).2.1, (cel7 ZS.out).2.2.1, (cel7 ZS.out).2.2.2.1, (cel7 ZS.out).2.2.2.2.1, (cel7 ZS.out).2.2.2.2.2.1, (cel7 ZS.out).2.2.2.2.2.2, (cel5r ZP.out).1, (cel5r ZP.out).2.1, (cel5r ZP.out).2.2.1, (cel5r ZP.out).2.2.2.1, (cel5r ZP.out).2.2.2.2⟩) (fun hHeld => ?_)
              clear hK
              try simp only [Act.put, List.setIfInBounds_toArray, List.set_cons_zero, List.set_cons_succ]
              refine wpAnyH_done (by kernel_rfl) ?_ _
              go_wp2_with fail
              go_meet
              exact ⟨ga, gb, X1, e1, D1, q1, k1, X2, e2, rfl, rfl, KA.out.len.symm.trans HKL.out, Tga.out, Tgb.out, ZS.out, ZP.out, SA.out, SB.out, KA.out, HKP.out, HB.out⟩
        case rest =>
          clear K1 K2 ZS ZP HB KS KP KK HKP HK0
          obtain ⟨R1, R2, X1, e1, D1, q1, k1, X2, e2, rfl, rfl, hq1, TA, TB, ZS, ZP, SA, SB, KA, KB, HB⟩ := hcut
          rw [hq1] at TA KA
          clear hq1
          go_wp2_with fail
          replace TA : Hid (wc.drew.heap[R1]? = some (.cells #[.int .i64 sc, .string sr, .int .i64 sv, .slice X1 FM.length e1, .string sb, .int .i64 now, .slice D1 n0 k1] 37 (0, 0))) := TA.out
          replace TB : Hid (wc.drew.heap[R2]? = some (.cells #[.int .i64 sc, .string sr, .int .i64 sv, .slice X2 FM.length e2, .string sb, .int .i64 now, .slice B0 n0 m0] 37 (0, 0))) := TB.out
          replace ZS : Hid (wc.drew.heap[w.heap.size]? = some (.cells #[.int .i64 sc, .string sr, .int .i64 sv, .slice A0 f.length c0, .string sb, .int .i64 st, .slice B0 n0 m0] 37 (0, 0))) := ZS.out
          replace ZP : Hid (wc.drew.heap[w.heap.size + 1]? = some (.cells #[.int .i64 pc, .string pr, .int .i64 pv, .slice A1 g.length c1, .string pb] 26 (0, 0))) := ZP.out
          replace SA := Lib.hid SA.out.drew
          replace SB := Lib.hid SB.out.drew
          replace KA := Lib.hid KA.out.drew
          replace KB := Lib.hid KB.out.drew
          replace HB := Lib.hid HB.out.drew
          have hnn : (now == now) = true := by simp
          go_region_held3 (fun W => W.cell? ⟨w.heap.size, 0, none⟩ = some (.int .i64 sc) ∧ W.cell? ⟨w.heap.size, 1, none⟩ = some (.string sr) ∧ W.cell? ⟨w.heap.size, 2, none⟩ = some (.int .i64 sv) ∧ W.cell? ⟨w.heap.size, 3, none⟩ = some (.slice A0 f.length c0) ∧ W.cell? ⟨w.heap.size, 4, none⟩ = some (.string sb) ∧ W.cell? ⟨w.heap.size, 5, none⟩ = some (.int .i64 st) ∧ W.cell? ⟨w.heap.size, 6, none⟩ = some (.slice B0 n0 m0) ∧ W.cell? ⟨w.heap.size + 1, 0, none⟩ = some (.int .i64 pc) ∧ W.cell? ⟨w.heap.size + 1, 1, none⟩ = some (.string pr) ∧ W.cell? ⟨w.heap.size + 1, 2, none⟩ = some (.int .i64 pv) ∧ W.cell? ⟨w.heap.size + 1, 3, none⟩ = some (.slice A1 g.length c1) ∧ W.cell? ⟨w.heap.size + 1, 4, none⟩ = some (.string pb) ∧ W.cell? ⟨R1, 0, none⟩ = some (.int .i64 sc) ∧ W.cell? ⟨R1, 1, none⟩ = some (.string sr) ∧ W.cell? ⟨R1, 2, none⟩ = some (.int .i64 sv) ∧ W.cell? ⟨R1, 3, none⟩ = some (.slice X1 FM.length e1) ∧ W.cell? ⟨R1, 4, none⟩ = some (.string sb) ∧ W.cell? ⟨R1, 5, none⟩ = some (.int .i64 now) ∧ W.cell? ⟨R1, 6, none⟩ = some (.slice D1 n0 k1) ∧ W.cell? ⟨R2, 0, none⟩ = some (.int .i64 sc) ∧ W.cell? ⟨R2, 1, none⟩ = some (.string sr) ∧ W.cell? ⟨R2, 2, none⟩ = some (.int .i64 sv) ∧ W.cell? ⟨R2, 3, none⟩ = some (.slice X2 FM.length e2) ∧ W.cell? ⟨R2, 4, none⟩ = some (.string sb) ∧ W.cell? ⟨R2, 5, none⟩ = some (.int .i64 now) ∧ W.cell? ⟨R2, 6, none⟩ = some (.slice B0 n0 m0)) (exact ⟨(cel7 ZS.out).1, (cel7 ZS.out).2.1, (cel7 ZS.out).2.2.1, (cel7 ZS.out).2.2.2.1, (cel7 ZS.out).2.2.2.2.1, (cel7 ZS.out).2.2.2.2.2.1, (cel7 ZS.out).2.2.2.2.2.2, (cel5r ZP.out).1, (cel5r ZP.out).2.1, (cel5r ZP.out).2.2.1, (cel5r ZP.out).2.2.2.1, (cel5r ZP.out).2.2.2.2, (cel7 TA.out).1, (cel7 TA.out).2.1, (cel7 TA.out).2.2.1, (cel7 TA.out).2.2.2.1, (cel7 TA.out).2.2.2.2.1, (cel7 TA.out).2.2.2.2.2.1, (cel7 TA.out).2.2.2.2.2.2, (cel7 TB.out).1, (cel7 TB.out).2.1, (cel7 TB.out).2.2.1, (cel7 TB.out).2.2.2.1, (cel7 TB.out).2.2.2.2.1, (cel7 TB.out).2.2.2.2.2.1, (cel7 TB.out).2.2.2.2.2.2⟩) (first
            | (go_at_call 21; refine (K3.out _ HB.out).mono ?_; rintro e w5 ⟨rfl, hb⟩; replace ZS := Lib.hid (zero_still hb ZS.out); replace ZP := Lib.hid (zero_still hb ZP.out); replace TA := Lib.hid (zero_still hb TA.out); replace TB := Lib.hid (zero_still hb TB.out); replace SA := Lib.hid (SA.out.below hb); replace SB := Lib.hid (SB.out.below hb); replace KA := Lib.hid (KA.out.below hb); replace KB := Lib.hid (KB.out.below hb); replace HB := Lib.hid (below_then HB.out hb); clear hb)
            | (go_at_call 22; refine (K4.out _ HB.out).mono ?_; rintro e w5 ⟨rfl, hb⟩; replace ZS := Lib.hid (zero_still hb ZS.out); replace ZP := Lib.hid (zero_still hb ZP.out); replace TA := Lib.hid (zero_still hb TA.out); replace TB := Lib.hid (zero_still hb TB.out); replace SA := Lib.hid (SA.out.below hb); replace SB := Lib.hid (SB.out.below hb); replace KA := Lib.hid (KA.out.below hb); replace KB := Lib.hid (KB.out.below hb); replace HB := Lib.hid (below_then HB.out hb); clear hb)
            | (go_at_call 12; refine (K7.out _ _ _ _ _ SA.out SB.out).mono ?_; rintro e w5 ⟨rfl, hb⟩; replace ZS := Lib.hid (zero_still hb ZS.out); replace ZP := Lib.hid (zero_still hb ZP.out); replace TA := Lib.hid (zero_still hb TA.out); replace TB := Lib.hid (zero_still hb TB.out); replace SA := Lib.hid (SA.out.below hb); replace SB := Lib.hid (SB.out.below hb); replace KA := Lib.hid (KA.out.below hb); replace KB := Lib.hid (KB.out.below hb); replace HB := Lib.hid (below_then HB.out hb); clear hb)
            | (go_at_call 23; refine (K8.out _ _ _ KA.out KB.out).mono ?_; rintro e w5 ⟨rfl, hb⟩; replace ZS := Lib.hid (zero_still hb ZS.out); replace ZP := Lib.hid (zero_still hb ZP.out); replace TA := Lib.hid (zero_still hb TA.out); replace TB := Lib.hid (zero_still hb TB.out); replace SA := Lib.hid (SA.out.below hb); replace SB := Lib.hid (SB.out.below hb); replace KA := Lib.hid (KA.out.below hb); replace KB := Lib.hid (KB.out.below hb); replace HB := Lib.hid (below_then HB.out hb); clear hb)
            | (go_at_call 9; refine (CX.out _ HB.out).mono ?_; rintro e w5 ⟨rfl, hb⟩; replace ZS := Lib.hid (zero_still hb ZS.out); replace ZP := Lib.hid (zero_still hb ZP.out); replace TA := Lib.hid (zero_still hb TA.out); replace TB := Lib.hid (zero_still hb TB.out); replace SA := Lib.hid (SA.out.below hb); replace SB := Lib.hid (SB.out.below hb); replace KA := Lib.hid (KA.out.below hb); replace KB := Lib.hid (KB.out.below hb); replace HB := Lib.hid (below_then HB.out hb); clear hb))
          go_wp2_with fail
          go_ret
          exact ⟨rfl, HB.out⟩

theorem door_met (os : Os) (args : Array Value) : laidMetH Tryz.prog Rows.condsMergesRow.laid ((World.laidAll Tryz.prog os Rows.condsMergesRow.laid).forCall (fun _ _ => 0) ⟨#[], args, []⟩).memory := by
  rw [MakeChecks.laidMetH_plain _ _ _ (by kernel_rfl)]
  exact laidMet_laidAll _ (by kernel_rfl) (by kernel_rfl)

set_option maxRecDepth 100000 in
theorem lifted (os : Os) (started : os.Started) (H : Type) (enc : TypeId × Value → H) :
    ReturnsInHanded {} Tryz.checked os 4 .any (fun w args => (Rows.condsMergesSpec.pre enc Tryz.prog Tryz.f4 [] false w args ∧ laidMetH Tryz.prog Rows.condsMergesRow.laid w) ∧ sizedMet enc Tryz.prog Tryz.f4 (OpenSpec.ofChange Rows.condsMergesSpec) false w args) (Rows.condsMergesSpec.post enc Tryz.prog Tryz.f4 false true false false) := by
  refine returns_and_shaped (C := Tryz.checked) (X := fun w _ => laidMetH Tryz.prog Rows.condsMergesRow.laid w) (fun _ _ _ hh h => h.of_heap hh) own started (by kernel_rfl) Tryz.func4
    (ChangeSpec.witness_shaped (enc := enc) (C := Tryz.checked) (os := os) (X := fun w _ => laidMetH Tryz.prog Rows.condsMergesRow.laid w) false (World.laidAll Tryz.prog os Rows.condsMergesRow.laid) #[.agg #[.int .i64 0, .string ByteArray.empty, .int .i64 0, .slice none 0 0, .string ByteArray.empty, .int .i64 0, .slice none 0 0], .agg #[.int .i64 0, .string ByteArray.empty, .int .i64 0, .slice none 0 0, .string ByteArray.empty], .int .i64 0] 8 rfl (World.shaped_of_ZipB (by kernel_rfl) (by kernel_rfl)) (by kernel_rfl) (by kernel_rfl) (by kernel_rfl) (door_met os _)) ?_
  intro W base args ds gs before hval0 hW hL hsh
  have hval : ∀ (j : Nat) t v, Tryz.f4.params[j]? = some t → args[j]? = some v → Value.okWide Tryz.prog W .any base t v := hval0
  have hW' := hW
  obtain ⟨p, q, hA0, hV, rfl, hfz, hnd⟩ := hW
  have hA : DataW.TrodAll enc Tryz.prog W 0 (fun _ => true) true Tryz.f4.params.toList args.toList ds p := hA0
  rw [Tryz.params4] at hA hval
  obtain ⟨v0, vs0, d0, ds0, p0, q0, hargs, rfl, rfl, h0, r0⟩ := trodAll_cons hA
  obtain ⟨v1, vs1, d1, ds1, p1, q1, rfl, rfl, rfl, h1, r1⟩ := trodAll_cons r0
  obtain ⟨v2, vs2, d2, ds2, p2, q2, rfl, rfl, rfl, h2, r2⟩ := trodAll_cons r1
  obtain ⟨rfl, rfl, rfl⟩ := trodAll_nil r2
  obtain rfl : args = #[v0, v1, v2] := by cases args; simp_all
  obtain ⟨rfl, rfl⟩ := trodVars_none hV
  have k0 := h0
  have lt0 : ∀ x ∈ p0, x.block < W.heap.size := by obtain ⟨m, hm⟩ := k0; exact DataW.trod_lt m _ _ _ hm
  obtain ⟨a0, A0, c0, B0, n0, m0, K0, rfl, w0⟩ := WfK.of_trod Tryz.underlying37 (by kernel_rfl) rfl rfl rfl (by kernel_rfl) (by kernel_rfl) (by kernel_rfl) Tryz.underlying26 Tryz.underlying3 Tryz.underlying35 rfl rfl rfl rfl rfl (by kernel_rfl) (by kernel_rfl) (by kernel_rfl) (by kernel_rfl) (by kernel_rfl) Tryz.underlying3 Tryz.underlying9 Tryz.underlying3 Tryz.underlying22 Tryz.underlying9 Tryz.underlying43 (by kernel_rfl) rfl rfl (by kernel_rfl) (by kernel_rfl) Tryz.underlying9 Tryz.underlying9 Tryz.underlying71 (by kernel_rfl) rfl rfl rfl (by kernel_rfl) (by kernel_rfl) (by kernel_rfl) Tryz.underlying9 Tryz.underlying4 Tryz.underlying9 (hval 0 37 v0 rfl rfl) h0
  have k1 := h1
  have lt1 : ∀ x ∈ p1, x.block < W.heap.size := by obtain ⟨m, hm⟩ := k1; exact DataW.trod_lt m _ _ _ hm
  obtain ⟨a1, A1, c1, rfl, w1⟩ := WfP.of_trod Tryz.underlying26 (by kernel_rfl) (by kernel_rfl) Tryz.underlying3 Tryz.underlying9 Tryz.underlying3 Tryz.underlying22 Tryz.underlying9 Tryz.underlying43 (by kernel_rfl) rfl rfl (by kernel_rfl) (by kernel_rfl) Tryz.underlying9 Tryz.underlying9 (hval 1 26 v1 rfl rfl) h1
  obtain ⟨a2, rfl, rfl, rfl, w2⟩ := open_int Tryz.underlying3 (hval 2 3 v2 rfl rfl) h2
  clear hA0 hval0
  refine (walk a0 A0 c0 B0 n0 m0 K0 a1 A1 c1 a2 W w0 w1 w2 hL hsh).mono fun e W' ⟨he, bel⟩ => ?_
  subst he
  exact ⟨_, rfl, _, _, _, [], _, [], hW', trodAll_mk1 (shut_bool Tryz.underlying4 _), (trodAll_cons_mk (Below.trod laidOut (by kernel_rfl) (of_decide_eq_true (by kernel_rfl)) k0 bel lt0) (trodAll_cons_mk (Below.trod laidOut (by kernel_rfl) (of_decide_eq_true (by kernel_rfl)) k1 bel lt1) (trodAll_cons_mk (shut_int Tryz.underlying3 w2) trodAll_mk0))), rfl, bel.frame _, fun h => by cases h⟩

theorem over : Rows.condsMergesRow.holds Tryz.pinned (OpenSpec.ofChange Rows.condsMergesSpec) :=
  OpenClaim.holds_of_wide 4 Tryz.f4 rfl rfl rfl rfl rfl rfl rfl ⟨rfl, rfl, rfl, rfl, rfl⟩ rfl rfl rfl rfl rfl (by kernel_rfl) Tryz.func4 (by kernel_rfl)
    (of_decide_eq_true (by kernel_rfl)) (by unfold Func.isWrapper; first | (rw [if_pos (by decide +kernel)]; kernel_rfl) | (rw [if_neg (by decide +kernel)]; exact ⟨rfl, rfl⟩))
    (fun os started H enc _ => lifted os started H enc)

theorem said : Rows.CondsMergesSaid :=
  over

theorem plain (f : FuncId) (fn : Func) (hf : Tryz.pinned.checked.prog.funcNamed "depot/depotlaw19.CondsMerges" = some f) (hfn : Tryz.pinned.checked.prog.funcs[f]? = some fn) :
    false = Tryz.pinned.checked.prog.looks [] ∧ ∀ (j : Nat) t, fn.params[j]? = some t → Tryz.pinned.checked.prog.wantsStandIn t = false := by
  obtain rfl : f = 4 := Option.some.inj ((show Tryz.prog.funcNamed "depot/depotlaw19.CondsMerges" = some 4 by kernel_rfl).symm.trans hf) |>.symm
  obtain rfl : fn = Tryz.f4 := (Option.some.inj (Tryz.func4.symm.trans hfn)).symm
  refine ⟨by kernel_rfl, fun j t ht => ?_⟩
  rw [Tryz.params4] at ht
  · have hm := Array.mem_of_getElem? ht
    simp only [List.mem_toArray, List.mem_cons, List.not_mem_nil, or_false] at hm
    have all : Tryz.pinned.checked.prog.wantsStandIn 3 = false ∧ Tryz.pinned.checked.prog.wantsStandIn 26 = false ∧ Tryz.pinned.checked.prog.wantsStandIn 37 = false := ⟨by kernel_rfl, by kernel_rfl, by kernel_rfl⟩
    rcases hm with rfl | rfl | rfl
    all_goals first | with_reducible exact all.1 | with_reducible exact all.2.1 | with_reducible exact all.2.2

theorem proved : Rows.CondsMergesCardSaid :=
  Claim7.holds_tied_plain_at .later [] _ _ _ _ said (fun _ h => by cases h) (by kernel_rfl) (fun _ h => by cases h) condsMerges_row_tie rfl ⟨rfl, rfl⟩ (by kernel_rfl) rfl plain (by kernel_rfl)
#print axioms proved
end Go.Proofs.YtjkfdjolhmgemaaGreatDoor.condsMerges
