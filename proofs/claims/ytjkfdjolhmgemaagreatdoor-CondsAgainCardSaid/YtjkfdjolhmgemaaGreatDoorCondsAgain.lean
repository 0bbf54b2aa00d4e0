/-
  The law CondsAgain (depotlaw19) returns true for every stored reply, every reply, every time and every name, and leaves what it was given as it was. No condition.
-/
import Derived.Test.YtjkfdjolhmgemaaGreatDoorRows
import Derived.WalkKit
import Derived.ProofKit
import Derived.OpenShut
import Derived.ShutString
import Derived.ChangeOld
import Derived.Below
import Derived.Test.YtjkfdjolhmgemaaGreatDoorMrgB
import Derived.Test.YtjkfdjolhmgemaaGreatDoorMrgD
import Derived.Test.YtjkfdjolhmgemaaGreatDoorMrgE
import Derived.Test.YtjkfdjolhmgemaaGreatDoorMrgF
import Derived.Test.YtjkfdjolhmgemaaGreatDoorMrgG
import Derived.Test.YtjkfdjolhmgemaaGreatDoorMrgH
import Derived.Test.YtjkfdjolhmgemaaGreatDoorMrgI
import Derived.Test.YtjkfdjolhmgemaaGreatDoorMrgR
import Derived.Test.YtjkfdjolhmgemaaGreatDoorMrgT
import Derived.Test.YtjkfdjolhmgemaaGreatDoorMrgAB
import Derived.Test.YtjkfdjolhmgemaaGreatDoorMrgAC
import Derived.Test.YtjkfdjolhmgemaaGreatDoorMrgAF
import Derived.Test.YtjkfdjolhmgemaaGreatDoorMrgAH
import Derived.Test.YtjkfdjolhmgemaaGreatDoorMrgAI
import Derived.Test.YtjkfdjolhmgemaaGreatDoorMrgAL
import Derived.Test.YtjkfdjolhmgemaaGreatDoorMrgAM
import Derived.Test.YtjkfdjolhmgemaaGreatDoorMrgAN
import Derived.Test.YtjkfdjolhmgemaaGreatDoorMrgAR
import Derived.Test.YtjkfdjolhmgemaaGreatDoorMrgAS
import Derived.Test.YtjkfdjolhmgemaaGreatDoorMrgAT
import Derived.Test.YtjkfdjolhmgemaaGreatDoorMrgAU
import Derived.Test.YtjkfdjolhmgemaaGreatDoorMrgAW
import Derived.Test.YtjkfdjolhmgemaaGreatDoorMrgAX
import Derived.Test.YtjkfdjolhmgemaaGreatDoorCards
import Derived.Test.YtjkfdjolhmgemaaGreatDoorTie
import Derived.LaidMore
import Derived.Lib.LaidTab
import Derived.Stop.Joined
import Derived.Lay
set_option linter.unusedSimpArgs false
set_option linter.unusedVariables false
namespace Go.Proofs.YtjkfdjolhmgemaaGreatDoor.condsAgain
open Go.ChangeShapes Go.WideShapes Go.ChangeAt Go.RowKit
open Go.ChangeMaps (open_string shut_string)
set_option linter.unusedVariables false

theorem own : ownKnob Tryz.prog.godebug = none := by kernel_rfl
theorem laidOut : laidOutB Tryz.prog = true := by kernel_rfl

set_option maxHeartbeats 8000000 in
set_option maxRecDepth 100000 in
theorem walk (a0 : Stor) (A0 : Option Addr) (c0 : Nat) (B0 : Option Addr) (n0 m0 : Nat) (K0 : List Pk) (a1 : Rply) (A1 : Option Addr) (c1 : Nat) (a2 : Int) (a3 : ByteArray) (w : World) (w0 : WfS w a0 A0 c0 ∧ SlK w B0 n0 m0 K0) (w1 : WfP w a1 A1 c1) (w2 : (Lit.int .i64 a2).wf = true) (w3 : a3.size ≤ maxLen) (hL : laidMetH Tryz.prog Rows.condsAgainRow.laid w) (hsh : w.ShapedOpen Tryz.prog) :
    Calls Tryz.prog 5 #[.agg (stC a0 A0 c0 B0 n0 m0), .agg (rpC a1 A1 c1), .int .i64 a2, .string a3] w fun e w' => e = .returned (.bool true) ∧ Below w.heap.size w w' := by
  have HT := Lib.hid (conTabs hL)
  clear hL hsh
  have hk := w0.2
  replace w0 := w0.1
  have HKL : Hid (K0.length = n0) := hk.len
  have CX := Lib.hid (fun W (hW : Below w.heap.size w W) => ex19_any W (HT.out.kept hW))
  have HFS := Lib.hid (fun W (hW : Below w.heap.size w W) => w0.f.below hW)
  have HFP := Lib.hid (fun W (hW : Below w.heap.size w W) => w1.f.below hW)
  have HFK := Lib.hid (fun W (hW : Below w.heap.size w W) => hk.below hW)
  have ks := fun W (hW : Below w.heap.size w W) => r_fewR a0 A0 c0 W (w0.f.below hW)
  have kp := fun W (hW : Below w.heap.size w W) => r_fewP5 a1 A1 c1 W (w1.f.below hW)
  have kk := fun W (hW : Below w.heap.size w W) => r_few B0 n0 m0 K0 W (hk.below hW)
  have hsy := fun h => fwR_yes (s := a0) h
  have hpy := fun h => fwP5_yes (p := a1) h
  cases hs : fwR a0 with
  | false =>
    rw [hs] at ks
    have KS := Lib.hid ks
    clear ks kp kk hsy hpy HKL hk HFS HFP HFK w0 w1 hs
    obtain ⟨sc, sr, sv, f, sb, st⟩ := a0
    obtain ⟨pc, pr, pv, g, pb⟩ := a1
    unfold stC srC rpC at *
    simp only at *
    obtain ⟨now, hnow⟩ : ∃ q, q = a2 := ⟨_, rfl⟩
    subst hnow
    have HB : Hid (Below w.heap.size w ((w.alloc (.cells #[.int .i64 sc, .string sr, .int .i64 sv, .slice A0 f.length c0, .string sb, .int .i64 st, .slice B0 n0 m0] 37)).alloc (.cells #[.int .i64 pc, .string pr, .int .i64 pv, .slice A1 g.length c1, .string pb] 26))) := ((Below.refl _ _).alloc (Nat.le_refl _) _).alloc (by simp) _
    have ZS : Hid (((w.alloc (.cells #[.int .i64 sc, .string sr, .int .i64 sv, .slice A0 f.length c0, .string sb, .int .i64 st, .slice B0 n0 m0] 37)).alloc (.cells #[.int .i64 pc, .string pr, .int .i64 pv, .slice A1 g.length c1, .string pb] 26)).heap[w.heap.size]? = some (.cells #[.int .i64 sc, .string sr, .int .i64 sv, .slice A0 f.length c0, .string sb, .int .i64 st, .slice B0 n0 m0] 37 (0, 0))) := zero_more (heap_alloc_new w _)
    have zt := heap_alloc_new (w.alloc (.cells #[.int .i64 sc, .string sr, .int .i64 sv, .slice A0 f.length c0, .string sb, .int .i64 st, .slice B0 n0 m0] 37)) (.cells #[.int .i64 pc, .string pr, .int .i64 pv, .slice A1 g.length c1, .string pb] 26)
    rw [show (w.alloc (.cells #[.int .i64 sc, .string sr, .int .i64 sv, .slice A0 f.length c0, .string sb, .int .i64 st, .slice B0 n0 m0] 37)).heap.size = w.heap.size + 1 by simp] at zt
    have ZP := Lib.hid zt
    clear zt
    obtain ⟨qq0, qq1, qq2, qq3, qq4, qq5, qq6⟩ := cel7 ZS.out
    obtain ⟨pq0, pq1, pq2, pq3, pq4⟩ := cel5r ZP.out
    go_enter Tryz.func5, Tryz.ntmps5
    go_wp2_with fail
    refine (KS.out _ HB.out).mono ?_
    rintro e v1 ⟨rfl, hb⟩
    clear qq0 qq1 qq2 qq3 qq4 qq5 qq6 pq0 pq1 pq2 pq3 pq4
    replace ZS := Lib.hid (zero_still hb ZS.out)
    replace ZP := Lib.hid (zero_still hb ZP.out)
    replace HB := Lib.hid (below_then HB.out hb)
    clear hb
    obtain ⟨qq0, qq1, qq2, qq3, qq4, qq5, qq6⟩ := cel7 ZS.out
    obtain ⟨pq0, pq1, pq2, pq3, pq4⟩ := cel5r ZP.out
    go_wp2_with fail
    refine (CX.out _ HB.out).mono ?_
    rintro e v99 ⟨rfl, hb⟩
    go_wp2_with fail
    go_ret
    exact ⟨rfl, below_then HB.out hb⟩
  | true =>
    cases hp : fwP5 a1 with
    | false =>
      rw [hs] at ks
      rw [hp] at kp
      have KS := Lib.hid ks
      have KP := Lib.hid kp
      clear ks kp kk hsy hpy HKL hk HFS HFP HFK w0 w1 hs hp
      obtain ⟨sc, sr, sv, f, sb, st⟩ := a0
      obtain ⟨pc, pr, pv, g, pb⟩ := a1
      unfold stC srC rpC at *
      simp only at *
      obtain ⟨now, hnow⟩ : ∃ q, q = a2 := ⟨_, rfl⟩
      subst hnow
      have HB : Hid (Below w.heap.size w ((w.alloc (.cells #[.int .i64 sc, .string sr, .int .i64 sv, .slice A0 f.length c0, .string sb, .int .i64 st, .slice B0 n0 m0] 37)).alloc (.cells #[.int .i64 pc, .string pr, .int .i64 pv, .slice A1 g.length c1, .string pb] 26))) := ((Below.refl _ _).alloc (Nat.le_refl _) _).alloc (by simp) _
      have ZS : Hid (((w.alloc (.cells #[.int .i64 sc, .string sr, .int .i64 sv, .slice A0 f.length c0, .string sb, .int .i64 st, .slice B0 n0 m0] 37)).alloc (.cells #[.int .i64 pc, .string pr, .int .i64 pv, .slice A1 g.length c1, .string pb] 26)).heap[w.heap.size]? = some (.cells #[.int .i64 sc, .string sr, .int .i64 sv, .slice A0 f.length c0, .string sb, .int .i64 st, .slice B0 n0 m0] 37 (0, 0))) := zero_more (heap_alloc_new w _)
      have zt := heap_alloc_new (w.alloc (.cells #[.int .i64 sc, .string sr, .int .i64 sv, .slice A0 f.length c0, .string sb, .int .i64 st, .slice B0 n0 m0] 37)) (.cells #[.int .i64 pc, .string pr, .int .i64 pv, .slice A1 g.length c1, .string pb] 26)
      rw [show (w.alloc (.cells #[.int .i64 sc, .string sr, .int .i64 sv, .slice A0 f.length c0, .string sb, .int .i64 st, .slice B0 n0 m0] 37)).heap.size = w.heap.size + 1 by simp] at zt
      have ZP := Lib.hid zt
      clear zt
      obtain ⟨qq0, qq1, qq2, qq3, qq4, qq5, qq6⟩ := cel7 ZS.out
      obtain ⟨pq0, pq1, pq2, pq3, pq4⟩ := cel5r ZP.out
      go_enter Tryz.func5, Tryz.ntmps5
      go_wp2_with fail
      refine (KS.out _ HB.out).mono ?_
      rintro e v2 ⟨rfl, hb⟩
      clear qq0 qq1 qq2 qq3 qq4 qq5 qq6 pq0 pq1 pq2 pq3 pq4
      replace ZS := Lib.hid (zero_still hb ZS.out)
      replace ZP := Lib.hid (zero_still hb ZP.out)
      replace HB := Lib.hid (below_then HB.out hb)
      clear hb
      obtain ⟨qq0, qq1, qq2, qq3, qq4, qq5, qq6⟩ := cel7 ZS.out
      obtain ⟨pq0, pq1, pq2, pq3, pq4⟩ := cel5r ZP.out
      go_wp2_with fail
      refine (KP.out _ HB.out).mono ?_
      rintro e v3 ⟨rfl, hb⟩
      clear qq0 qq1 qq2 qq3 qq4 qq5 qq6 pq0 pq1 pq2 pq3 pq4
      replace ZS := Lib.hid (zero_still hb ZS.out)
      replace ZP := Lib.hid (zero_still hb ZP.out)
      replace HB := Lib.hid (below_then HB.out hb)
      clear hb
      obtain ⟨qq0, qq1, qq2, qq3, qq4, qq5, qq6⟩ := cel7 ZS.out
      obtain ⟨pq0, pq1, pq2, pq3, pq4⟩ := cel5r ZP.out
      go_wp2_with fail
      refine (CX.out _ HB.out).mono ?_
      rintro e v99 ⟨rfl, hb⟩
      go_wp2_with fail
      go_ret
      exact ⟨rfl, below_then HB.out hb⟩
    | true =>
      cases hq : fewK K0 with
      | false =>
        rw [hs] at ks
        rw [hp] at kp
        rw [hq] at kk
        have KS := Lib.hid ks
        have KP := Lib.hid kp
        have KK := Lib.hid kk
        clear ks kp kk hsy hpy HKL hk HFS HFP HFK w0 w1 hs hp hq
        obtain ⟨sc, sr, sv, f, sb, st⟩ := a0
        obtain ⟨pc, pr, pv, g, pb⟩ := a1
        unfold stC srC rpC at *
        simp only at *
        obtain ⟨now, hnow⟩ : ∃ q, q = a2 := ⟨_, rfl⟩
        subst hnow
        have HB : Hid (Below w.heap.size w ((w.alloc (.cells #[.int .i64 sc, .string sr, .int .i64 sv, .slice A0 f.length c0, .string sb, .int .i64 st, .slice B0 n0 m0] 37)).alloc (.cells #[.int .i64 pc, .string pr, .int .i64 pv, .slice A1 g.length c1, .string pb] 26))) := ((Below.refl _ _).alloc (Nat.le_refl _) _).alloc (by simp) _
        have ZS : Hid (((w.alloc (.cells #[.int .i64 sc, .string sr, .int .i64 sv, .slice A0 f.length c0, .string sb, .int .i64 st, .slice B0 n0 m0] 37)).alloc (.cells #[.int .i64 pc, .string pr, .int .i64 pv, .slice A1 g.length c1, .string pb] 26)).heap[w.heap.size]? = some (.cells #[.int .i64 sc, .string sr, .int .i64 sv, .slice A0 f.length c0, .string sb, .int .i64 st, .slice B0 n0 m0] 37 (0, 0))) := zero_more (heap_alloc_new w _)
        have zt := heap_alloc_new (w.alloc (.cells #[.int .i64 sc, .string sr, .int .i64 sv, .slice A0 f.length c0, .string sb, .int .i64 st, .slice B0 n0 m0] 37)) (.cells #[.int .i64 pc, .string pr, .int .i64 pv, .slice A1 g.length c1, .string pb] 26)
        rw [show (w.alloc (.cells #[.int .i64 sc, .string sr, .int .i64 sv, .slice A0 f.length c0, .string sb, .int .i64 st, .slice B0 n0 m0] 37)).heap.size = w.heap.size + 1 by simp] at zt
        have ZP := Lib.hid zt
        clear zt
        obtain ⟨qq0, qq1, qq2, qq3, qq4, qq5, qq6⟩ := cel7 ZS.out
        obtain ⟨pq0, pq1, pq2, pq3, pq4⟩ := cel5r ZP.out
        go_enter Tryz.func5, Tryz.ntmps5
        go_wp2_with fail
        refine (KS.out _ HB.out).mono ?_
        rintro e v4 ⟨rfl, hb⟩
        clear qq0 qq1 qq2 qq3 qq4 qq5 qq6 pq0 pq1 pq2 pq3 pq4
        replace ZS := Lib.hid (zero_still hb ZS.out)
        replace ZP := Lib.hid (zero_still hb ZP.out)
        replace HB := Lib.hid (below_then HB.out hb)
        clear hb
        obtain ⟨qq0, qq1, qq2, qq3, qq4, qq5, qq6⟩ := cel7 ZS.out
        obtain ⟨pq0, pq1, pq2, pq3, pq4⟩ := cel5r ZP.out
        go_wp2_with fail
        refine (KP.out _ HB.out).mono ?_
        rintro e v5 ⟨rfl, hb⟩
        clear qq0 qq1 qq2 qq3 qq4 qq5 qq6 pq0 pq1 pq2 pq3 pq4
        replace ZS := Lib.hid (zero_still hb ZS.out)
        replace ZP := Lib.hid (zero_still hb ZP.out)
        replace HB := Lib.hid (below_then HB.out hb)
        clear hb
        obtain ⟨qq0, qq1, qq2, qq3, qq4, qq5, qq6⟩ := cel7 ZS.out
        obtain ⟨pq0, pq1, pq2, pq3, pq4⟩ := cel5r ZP.out
        go_wp2_with fail
        refine (KK.out _ HB.out).mono ?_
        rintro e v6 ⟨rfl, hb⟩
        clear qq0 qq1 qq2 qq3 qq4 qq5 qq6 pq0 pq1 pq2 pq3 pq4
        replace ZS := Lib.hid (zero_still hb ZS.out)
        replace ZP := Lib.hid (zero_still hb ZP.out)
        replace HB := Lib.hid (below_then HB.out hb)
        clear hb
        obtain ⟨qq0, qq1, qq2, qq3, qq4, qq5, qq6⟩ := cel7 ZS.out
        obtain ⟨pq0, pq1, pq2, pq3, pq4⟩ := cel5r ZP.out
        go_wp2_with fail
        refine (CX.out _ HB.out).mono ?_
        rintro e v99 ⟨rfl, hb⟩
        go_wp2_with fail
        go_ret
        exact ⟨rfl, below_then HB.out hb⟩
      | true =>
        by_cases hnm : (500 : Int) < (a3.size : Int)
        · skip
          rw [hs] at ks
          rw [hp] at kp
          rw [hq] at kk
          have KS := Lib.hid ks
          have KP := Lib.hid kp
          have KK := Lib.hid kk
          clear ks kp kk hsy hpy HKL hk HFS HFP HFK w0 w1 hs hp hq
          obtain ⟨sc, sr, sv, f, sb, st⟩ := a0
          obtain ⟨pc, pr, pv, g, pb⟩ := a1
          unfold stC srC rpC at *
          simp only at *
          obtain ⟨now, hnow⟩ : ∃ q, q = a2 := ⟨_, rfl⟩
          subst hnow
          have HB : Hid (Below w.heap.size w ((w.alloc (.cells #[.int .i64 sc, .string sr, .int .i64 sv, .slice A0 f.length c0, .string sb, .int .i64 st, .slice B0 n0 m0] 37)).alloc (.cells #[.int .i64 pc, .string pr, .int .i64 pv, .slice A1 g.length c1, .string pb] 26))) := ((Below.refl _ _).alloc (Nat.le_refl _) _).alloc (by simp) _
          have ZS : Hid (((w.alloc (.cells #[.int .i64 sc, .string sr, .int .i64 sv, .slice A0 f.length c0, .string sb, .int .i64 st, .slice B0 n0 m0] 37)).alloc (.cells #[.int .i64 pc, .string pr, .int .i64 pv, .slice A1 g.length c1, .string pb] 26)).heap[w.heap.size]? = some (.cells #[.int .i64 sc, .string sr, .int .i64 sv, .slice A0 f.length c0, .string sb, .int .i64 st, .slice B0 n0 m0] 37 (0, 0))) := zero_more (heap_alloc_new w _)
          have zt := heap_alloc_new (w.alloc (.cells #[.int .i64 sc, .string sr, .int .i64 sv, .slice A0 f.length c0, .string sb, .int .i64 st, .slice B0 n0 m0] 37)) (.cells #[.int .i64 pc, .string pr, .int .i64 pv, .slice A1 g.length c1, .string pb] 26)
          rw [show (w.alloc (.cells #[.int .i64 sc, .string sr, .int .i64 sv, .slice A0 f.length c0, .string sb, .int .i64 st, .slice B0 n0 m0] 37)).heap.size = w.heap.size + 1 by simp] at zt
          have ZP := Lib.hid zt
          clear zt
          obtain ⟨qq0, qq1, qq2, qq3, qq4, qq5, qq6⟩ := cel7 ZS.out
          obtain ⟨pq0, pq1, pq2, pq3, pq4⟩ := cel5r ZP.out
          go_enter Tryz.func5, Tryz.ntmps5
          go_wp2_with fail
          refine (KS.out _ HB.out).mono ?_
          rintro e v7 ⟨rfl, hb⟩
          clear qq0 qq1 qq2 qq3 qq4 qq5 qq6 pq0 pq1 pq2 pq3 pq4
          replace ZS := Lib.hid (zero_still hb ZS.out)
          replace ZP := Lib.hid (zero_still hb ZP.out)
          replace HB := Lib.hid (below_then HB.out hb)
          clear hb
          obtain ⟨qq0, qq1, qq2, qq3, qq4, qq5, qq6⟩ := cel7 ZS.out
          obtain ⟨pq0, pq1, pq2, pq3, pq4⟩ := cel5r ZP.out
          go_wp2_with fail
          refine (KP.out _ HB.out).mono ?_
          rintro e v8 ⟨rfl, hb⟩
          clear qq0 qq1 qq2 qq3 qq4 qq5 qq6 pq0 pq1 pq2 pq3 pq4
          replace ZS := Lib.hid (zero_still hb ZS.out)
          replace ZP := Lib.hid (zero_still hb ZP.out)
          replace HB := Lib.hid (below_then HB.out hb)
          clear hb
          obtain ⟨qq0, qq1, qq2, qq3, qq4, qq5, qq6⟩ := cel7 ZS.out
          obtain ⟨pq0, pq1, pq2, pq3, pq4⟩ := cel5r ZP.out
          go_wp2_with fail
          refine (KK.out _ HB.out).mono ?_
          rintro e v9 ⟨rfl, hb⟩
          clear qq0 qq1 qq2 qq3 qq4 qq5 qq6 pq0 pq1 pq2 pq3 pq4
          replace ZS := Lib.hid (zero_still hb ZS.out)
          replace ZP := Lib.hid (zero_still hb ZP.out)
          replace HB := Lib.hid (below_then HB.out hb)
          clear hb
          obtain ⟨qq0, qq1, qq2, qq3, qq4, qq5, qq6⟩ := cel7 ZS.out
          obtain ⟨pq0, pq1, pq2, pq3, pq4⟩ := cel5r ZP.out
          go_wp2_with fail
          refine (CX.out _ HB.out).mono ?_
          rintro e v99 ⟨rfl, hb⟩
          go_wp2_with fail
          go_ret
          exact ⟨rfl, below_then HB.out hb⟩
        · skip
          rw [hs] at ks
          rw [hp] at kp
          rw [hq] at kk
          have KS := Lib.hid ks
          have KP := Lib.hid kp
          have KK := Lib.hid kk
          have hS := (hsy hs).1
          have hP := (hpy hp).1
          have hS7 := (hsy hs).2.1
          have hP7 := (hpy hp).2.1
          have hkl := fewK_len hq
          clear ks kp kk hsy hpy hs hp hq w0 w1
          have hFM : FwL (mrgF a0.f a1.f) := ⟨by have := mrg_len a0.f a1.f; omega, fun x hx => by
            rcases mrg_mem hx with h | h
            · exact hS.v x h
            · exact hP.v x h, fun x hx => by
            rcases mrg_mem hx with h | h
            · exact hS.m x h
            · exact hP.m x h⟩
          have hml : (mrgF a0.f a1.f).length ≤ 100000000 := by have := hFM.n; omega
          have K1 := Lib.hid (fun W (hW : Below w.heap.size w W) => conM_any a0 A0 c0 B0 n0 m0 a1 A1 c1 a2 K0 W (HFS.out W hW) hS (HFK.out W hW) (HFP.out W hW) hP (by have := HKL.out; omega) (HT.out.kept hW))
          have k2 := fun W (hW : Below w.heap.size w W) X1 e1 D1 k1 (h : SlF W X1 (mrgF a0.f a1.f).length e1 (mrgF a0.f a1.f)) (hD : SlK W D1 n0 k1 K0) => conM_any ⟨a0.c, a0.r, a0.v, mrgF a0.f a1.f, a0.b, a2⟩ X1 e1 D1 n0 k1 a1 A1 c1 a2 K0 W h hFM hD (HFP.out W hW) hP (by have := HKL.out; omega) (HT.out.kept hW)
          simp only [mrg_again] at k2
          have K2 := Lib.hid k2
          have K7 := Lib.hid (fun W A B c d h h' => r_sameP ⟨a0.c, a0.r, a0.v, mrgF a0.f a1.f, a0.b⟩ A B c d W h h' hml)
          have k8 := fun W D k (h : SlK W D n0 k K0) (h' : SlK W B0 n0 m0 K0) => r_pkSame D B0 n0 k n0 m0 K0 K0 W h h' (by have := HKL.out; omega)
          simp only [pksB_refl] at k8
          have K8 := Lib.hid k8
          have K9 := Lib.hid (fun W A B (h : SlF W A 1 1 [(a3, (⟨#[]⟩ : ByteArray))]) (h' : SlS W B 2 2 c2N) => drop_any A B 1 1 2 2 [(a3, ⟨#[]⟩)] c2N W h (by decide) (fun x hx => by rw [List.mem_singleton] at hx; subst hx; exact ⟨by show a3.size ≤ _; omega, of_decide_eq_true rfl⟩) h' (by decide) (by decide))
          have GS := Lib.hid (fun W (hW : Below w.heap.size w W) => getF_any A0 a0.f.length c0 a0.f a3 W (HFS.out W hW) (by omega) (fwl_bd hS) w3 (fwl_join hS a3))
          have GN := Lib.hid (fun W (hW : Below w.heap.size w W) => getF_any A1 a1.f.length c1 a1.f a3 W (HFP.out W hW) (by omega) (fwl_bd hP) w3 (fwl_join hP a3))
          have GA := Lib.hid (fun W X1 e1 (h : SlF W X1 (mrgF a0.f a1.f).length e1 (mrgF a0.f a1.f)) => getF_any X1 (mrgF a0.f a1.f).length e1 (mrgF a0.f a1.f) a3 W h (by omega) (fwl_bd hFM) w3 (fwl_join hFM a3))
          have hdr : (fdDrop [(a3, (⟨#[]⟩ : ByteArray))] c2N = [] ∧ nmd c2N (a3, ⟨#[]⟩) = true) ∨ (fdDrop [(a3, (⟨#[]⟩ : ByteArray))] c2N = [(a3, ⟨#[]⟩)] ∧ nmd c2N (a3, ⟨#[]⟩) = false) := by
            unfold fdDrop
            rw [List.filter_cons]
            cases nmd c2N (a3, ⟨#[]⟩)
            · exact .inr ⟨rfl, rfl⟩
            · exact .inl ⟨rfl, rfl⟩
          have hot := fun (h1 : nmd c2N (a3, (⟨#[]⟩ : ByteArray)) = false) (h2 : fdGot a1.f a3 = false) => (mrg_other (L := a0.f) (N := a1.f) (o := a3) (fun n hn => by
            unfold nmd at h1
            rw [List.any_eq_false] at h1
            simpa using h1 n hn) h2).1
          generalize mrgF a0.f a1.f = FM at *
          generalize fdGet a0.f a3 = was at *
          generalize fdGot a0.f a3 = wasb at *
          generalize fdGet FM a3 = is_ at *
          generalize fdGot FM a3 = isb at *
          generalize fdGet a1.f a3 = nv at *
          obtain ⟨nb, hnb⟩ : ∃ q, q = fdGot a1.f a3 := ⟨_, rfl⟩
          rw [← hnb] at GN hot
          clear hnb
          have HKK : Hid (SlK w B0 n0 m0 K0) := hk
          have HNM : Hid (a3.size ≤ 500) := by show _ ≤ _; omega
          have hw3 := Lib.hid w3
          clear HFS HFP HFK hS hP hS7 hP7 hkl hFM hml hk k2 k8
          obtain ⟨sc, sr, sv, f, sb, st⟩ := a0
          obtain ⟨pc, pr, pv, g, pb⟩ := a1
          unfold stC srC rpC at *
          simp only at *
          obtain ⟨now, hnow⟩ : ∃ q, q = a2 := ⟨_, rfl⟩
          subst hnow
          have hnn : (now != now) = false := by simp
          have hsc : (sc != sc) = false := by simp
          have hsv : (sv != sv) = false := by simp
          have hsr : (sr.toList != sr.toList) = false := by simp
          have hsb : (sb.toList != sb.toList) = false := by simp
          rcases hdr with ⟨hdr0, _⟩ | ⟨hdr0, hnm2⟩
          · skip
            clear hot GS GN GA
            have HB : Hid (Below w.heap.size w ((w.alloc (.cells #[.int .i64 sc, .string sr, .int .i64 sv, .slice A0 f.length c0, .string sb, .int .i64 st, .slice B0 n0 m0] 37)).alloc (.cells #[.int .i64 pc, .string pr, .int .i64 pv, .slice A1 g.length c1, .string pb] 26))) := ((Below.refl _ _).alloc (Nat.le_refl _) _).alloc (by simp) _
            have ZS : Hid (((w.alloc (.cells #[.int .i64 sc, .string sr, .int .i64 sv, .slice A0 f.length c0, .string sb, .int .i64 st, .slice B0 n0 m0] 37)).alloc (.cells #[.int .i64 pc, .string pr, .int .i64 pv, .slice A1 g.length c1, .string pb] 26)).heap[w.heap.size]? = some (.cells #[.int .i64 sc, .string sr, .int .i64 sv, .slice A0 f.length c0, .string sb, .int .i64 st, .slice B0 n0 m0] 37 (0, 0))) := zero_more (heap_alloc_new w _)
            have zt := heap_alloc_new (w.alloc (.cells #[.int .i64 sc, .string sr, .int .i64 sv, .slice A0 f.length c0, .string sb, .int .i64 st, .slice B0 n0 m0] 37)) (.cells #[.int .i64 pc, .string pr, .int .i64 pv, .slice A1 g.length c1, .string pb] 26)
            rw [show (w.alloc (.cells #[.int .i64 sc, .string sr, .int .i64 sv, .slice A0 f.length c0, .string sb, .int .i64 st, .slice B0 n0 m0] 37)).heap.size = w.heap.size + 1 by simp] at zt
            have ZP := Lib.hid zt
            clear zt
            obtain ⟨qq0, qq1, qq2, qq3, qq4, qq5, qq6⟩ := cel7 ZS.out
            obtain ⟨pq0, pq1, pq2, pq3, pq4⟩ := cel5r ZP.out
            go_enter Tryz.func5, Tryz.ntmps5
            go_wp2_with fail
            refine (KS.out _ HB.out).mono ?_
            rintro e v10 ⟨rfl, hb⟩
            clear qq0 qq1 qq2 qq3 qq4 qq5 qq6 pq0 pq1 pq2 pq3 pq4
            replace ZS := Lib.hid (zero_still hb ZS.out)
            replace ZP := Lib.hid (zero_still hb ZP.out)
            replace HB := Lib.hid (below_then HB.out hb)
            clear hb
            obtain ⟨qq0, qq1, qq2, qq3, qq4, qq5, qq6⟩ := cel7 ZS.out
            obtain ⟨pq0, pq1, pq2, pq3, pq4⟩ := cel5r ZP.out
            go_wp2_with fail
            refine (KP.out _ HB.out).mono ?_
            rintro e v11 ⟨rfl, hb⟩
            clear qq0 qq1 qq2 qq3 qq4 qq5 qq6 pq0 pq1 pq2 pq3 pq4
            replace ZS := Lib.hid (zero_still hb ZS.out)
            replace ZP := Lib.hid (zero_still hb ZP.out)
            replace HB := Lib.hid (below_then HB.out hb)
            clear hb
            obtain ⟨qq0, qq1, qq2, qq3, qq4, qq5, qq6⟩ := cel7 ZS.out
            obtain ⟨pq0, pq1, pq2, pq3, pq4⟩ := cel5r ZP.out
            go_wp2_with fail
            refine (KK.out _ HB.out).mono ?_
            rintro e v12 ⟨rfl, hb⟩
            clear qq0 qq1 qq2 qq3 qq4 qq5 qq6 pq0 pq1 pq2 pq3 pq4
            replace ZS := Lib.hid (zero_still hb ZS.out)
            replace ZP := Lib.hid (zero_still hb ZP.out)
            replace HB := Lib.hid (below_then HB.out hb)
            clear hb
            obtain ⟨qq0, qq1, qq2, qq3, qq4, qq5, qq6⟩ := cel7 ZS.out
            obtain ⟨pq0, pq1, pq2, pq3, pq4⟩ := cel5r ZP.out
            go_wp2_with fail
            refine (K1.out _ HB.out).mono ?_
            rintro e v13 ⟨X1, e1, D1, q1, k1, rfl, hsA, hfA, hkA, hoA, hb⟩
            clear qq0 qq1 qq2 qq3 qq4 qq5 qq6 pq0 pq1 pq2 pq3 pq4
            replace ZS := Lib.hid (zero_still hb ZS.out)
            replace ZP := Lib.hid (zero_still hb ZP.out)
            replace HB := Lib.hid (below_then HB.out hb)
            have SA := Lib.hid hsA
            clear hsA
            have hq1 : n0 = q1 := by have h1 := hkA.len; have h2 := HKL.out; omega
            subst hq1
            have KA := Lib.hid hkA
            clear hb hkA hfA hoA
            have HKb := Lib.hid (HKK.out.below HB.out)
            have hbu : Below v13.heap.size v13 (v13.alloc (.cells #[.int .i64 sc, .string sr, .int .i64 sv, .slice X1 FM.length e1, .string sb, .int .i64 now, .slice D1 n0 k1] 37)) := (Below.refl _ _).alloc (Nat.le_refl _) _
            replace ZS := Lib.hid (zero_still hbu ZS.out)
            replace ZP := Lib.hid (zero_still hbu ZP.out)
            replace SA := Lib.hid (SA.out.below hbu)
            replace KA := Lib.hid (KA.out.below hbu)
            replace HKb := Lib.hid (HKb.out.below hbu)
            replace HB := Lib.hid (below_then HB.out hbu)
            have zn := heap_alloc_new v13 (.cells #[.int .i64 sc, .string sr, .int .i64 sv, .slice X1 FM.length e1, .string sb, .int .i64 now, .slice D1 n0 k1] 37)
            obtain ⟨ga, hga⟩ : ∃ q, v13.heap.size = q := ⟨_, rfl⟩
            rw [hga] at zn
            have ZA := Lib.hid zn
            clear hbu zn
            obtain ⟨qq0, qq1, qq2, qq3, qq4, qq5, qq6⟩ := cel7 ZS.out
            obtain ⟨pq0, pq1, pq2, pq3, pq4⟩ := cel5r ZP.out
            obtain ⟨aq0, aq1, aq2, aq3, aq4, aq5, aq6⟩ := cel7 ZA.out
            go_wp2_with fail
            refine (K2.out _ HB.out _ _ _ _ SA.out KA.out).mono ?_
            rintro e v14 ⟨X2, e2, D2, q2, k2, rfl, hsB, hfB, hkB, hoB, hb⟩
            clear qq0 qq1 qq2 qq3 qq4 qq5 qq6 pq0 pq1 pq2 pq3 pq4 aq0 aq1 aq2 aq3 aq4 aq5 aq6
            replace ZS := Lib.hid (zero_still hb ZS.out)
            replace ZP := Lib.hid (zero_still hb ZP.out)
            replace ZA := Lib.hid (zero_still hb ZA.out)
            replace SA := Lib.hid (SA.out.below hb)
            replace KA := Lib.hid (KA.out.below hb)
            replace HKb := Lib.hid (HKb.out.below hb)
            replace HB := Lib.hid (below_then HB.out hb)
            have SB := Lib.hid hsB
            clear hsB
            have hq2 : n0 = q2 := by have h1 := hkB.len; have h2 := HKL.out; omega
            subst hq2
            clear hb hkB hfB hoB
            have hbu : Below v14.heap.size v14 (v14.alloc (.cells #[.int .i64 sc, .string sr, .int .i64 sv, .slice X2 FM.length e2, .string sb, .int .i64 now, .slice D2 n0 k2] 37)) := (Below.refl _ _).alloc (Nat.le_refl _) _
            replace ZS := Lib.hid (zero_still hbu ZS.out)
            replace ZP := Lib.hid (zero_still hbu ZP.out)
            replace ZA := Lib.hid (zero_still hbu ZA.out)
            replace SA := Lib.hid (SA.out.below hbu)
            replace KA := Lib.hid (KA.out.below hbu)
            replace HKb := Lib.hid (HKb.out.below hbu)
            replace SB := Lib.hid (SB.out.below hbu)
            replace HB := Lib.hid (below_then HB.out hbu)
            have zn := heap_alloc_new v14 (.cells #[.int .i64 sc, .string sr, .int .i64 sv, .slice X2 FM.length e2, .string sb, .int .i64 now, .slice D2 n0 k2] 37)
            obtain ⟨gb, hgb⟩ : ∃ q, v14.heap.size = q := ⟨_, rfl⟩
            rw [hgb] at zn
            have ZB := Lib.hid zn
            clear hbu zn
            obtain ⟨qq0, qq1, qq2, qq3, qq4, qq5, qq6⟩ := cel7 ZS.out
            obtain ⟨pq0, pq1, pq2, pq3, pq4⟩ := cel5r ZP.out
            obtain ⟨aq0, aq1, aq2, aq3, aq4, aq5, aq6⟩ := cel7 ZA.out
            obtain ⟨bq0, bq1, bq2, bq3, bq4, bq5, bq6⟩ := cel7 ZB.out
            go_wp2_with fail
            refine (K7.out _ _ _ _ _ SA.out SB.out).mono ?_
            rintro e v15 ⟨rfl, hb⟩
            clear qq0 qq1 qq2 qq3 qq4 qq5 qq6 pq0 pq1 pq2 pq3 pq4 aq0 aq1 aq2 aq3 aq4 aq5 aq6 bq0 bq1 bq2 bq3 bq4 bq5 bq6
            replace ZS := Lib.hid (zero_still hb ZS.out)
            replace ZP := Lib.hid (zero_still hb ZP.out)
            replace ZA := Lib.hid (zero_still hb ZA.out)
            replace ZB := Lib.hid (zero_still hb ZB.out)
            replace SA := Lib.hid (SA.out.below hb)
            replace KA := Lib.hid (KA.out.below hb)
            replace HKb := Lib.hid (HKb.out.below hb)
            replace SB := Lib.hid (SB.out.below hb)
            replace HB := Lib.hid (below_then HB.out hb)
            clear hb
            obtain ⟨qq0, qq1, qq2, qq3, qq4, qq5, qq6⟩ := cel7 ZS.out
            obtain ⟨pq0, pq1, pq2, pq3, pq4⟩ := cel5r ZP.out
            obtain ⟨aq0, aq1, aq2, aq3, aq4, aq5, aq6⟩ := cel7 ZA.out
            obtain ⟨bq0, bq1, bq2, bq3, bq4, bq5, bq6⟩ := cel7 ZB.out
            go_wp2_with fail
            refine (K8.out _ _ _ KA.out HKb.out).mono ?_
            rintro e v16 ⟨rfl, hb⟩
            clear qq0 qq1 qq2 qq3 qq4 qq5 qq6 pq0 pq1 pq2 pq3 pq4 aq0 aq1 aq2 aq3 aq4 aq5 aq6 bq0 bq1 bq2 bq3 bq4 bq5 bq6
            replace ZS := Lib.hid (zero_still hb ZS.out)
            replace ZP := Lib.hid (zero_still hb ZP.out)
            replace ZA := Lib.hid (zero_still hb ZA.out)
            replace ZB := Lib.hid (zero_still hb ZB.out)
            replace SA := Lib.hid (SA.out.below hb)
            replace KA := Lib.hid (KA.out.below hb)
            replace HKb := Lib.hid (HKb.out.below hb)
            replace SB := Lib.hid (SB.out.below hb)
            replace HB := Lib.hid (below_then HB.out hb)
            clear hb
            obtain ⟨qq0, qq1, qq2, qq3, qq4, qq5, qq6⟩ := cel7 ZS.out
            obtain ⟨pq0, pq1, pq2, pq3, pq4⟩ := cel5r ZP.out
            obtain ⟨aq0, aq1, aq2, aq3, aq4, aq5, aq6⟩ := cel7 ZA.out
            obtain ⟨bq0, bq1, bq2, bq3, bq4, bq5, bq6⟩ := cel7 ZB.out
            have sx := (SlF.one2 v16 43 43 (a3, (⟨#[]⟩ : ByteArray)) ⟨by have := HNM.out; show a3.size ≤ _; unfold maxLen; omega, of_decide_eq_true rfl⟩).alloc (.cells #[.string ⟨#[65, 103, 101]⟩, .string ⟨#[68, 97, 116, 101]⟩] 9)
            have kn := SlS.texts ((v16.alloc (.cells #[.string a3, .string ⟨#[]⟩] 43)).alloc (.cells #[.string a3, .string ⟨#[]⟩] 43)) 9 [⟨#[65, 103, 101]⟩, ⟨#[68, 97, 116, 101]⟩] (by decide)
            rw [show (v16.alloc (.cells #[.string a3, .string ⟨#[]⟩] 43)).heap.size = v16.heap.size + 1 by simp] at sx
            rw [show ((v16.alloc (.cells #[.string a3, .string ⟨#[]⟩] 43)).alloc (.cells #[.string a3, .string ⟨#[]⟩] 43)).heap.size = v16.heap.size + 1 + 1 by simp] at kn
            have SX : Hid (SlF (((v16.alloc (.cells #[.string a3, .string ⟨#[]⟩] 43)).alloc (.cells #[.string a3, .string ⟨#[]⟩] 43)).alloc (.cells #[.string ⟨#[65, 103, 101]⟩, .string ⟨#[68, 97, 116, 101]⟩] 9)) (some ⟨v16.heap.size + 1, 0, none⟩) 1 1 [(a3, (⟨#[]⟩ : ByteArray))]) := sx
            have KNN : Hid (SlS (((v16.alloc (.cells #[.string a3, .string ⟨#[]⟩] 43)).alloc (.cells #[.string a3, .string ⟨#[]⟩] 43)).alloc (.cells #[.string ⟨#[65, 103, 101]⟩, .string ⟨#[68, 97, 116, 101]⟩] 9)) (some ⟨v16.heap.size + 1 + 1, 0, none⟩) 2 2 c2N) := kn
            clear sx kn
            have HZ3 : Hid (Below v16.heap.size v16 (((v16.alloc (.cells #[.string a3, .string ⟨#[]⟩] 43)).alloc (.cells #[.string a3, .string ⟨#[]⟩] 43)).alloc (.cells #[.string ⟨#[65, 103, 101]⟩, .string ⟨#[68, 97, 116, 101]⟩] 9))) := alls_below [.cells #[.string a3, .string ⟨#[]⟩] 43, .cells #[.string a3, .string ⟨#[]⟩] 43, .cells #[.string ⟨#[65, 103, 101]⟩, .string ⟨#[68, 97, 116, 101]⟩] 9] v16
            go_wp2_with fail
            refine (K9.out _ _ _ SX.out KNN.out).mono ?_
            rintro e v17 ⟨ov, rfl, ho, hb0⟩
            have hb := below_then HZ3.out hb0
            clear qq0 qq1 qq2 qq3 qq4 qq5 qq6 pq0 pq1 pq2 pq3 pq4 aq0 aq1 aq2 aq3 aq4 aq5 aq6 bq0 bq1 bq2 bq3 bq4 bq5 bq6
            replace ZS := Lib.hid (zero_still hb ZS.out)
            replace ZP := Lib.hid (zero_still hb ZP.out)
            replace ZA := Lib.hid (zero_still hb ZA.out)
            replace ZB := Lib.hid (zero_still hb ZB.out)
            replace SA := Lib.hid (SA.out.below hb)
            replace KA := Lib.hid (KA.out.below hb)
            replace HKb := Lib.hid (HKb.out.below hb)
            replace SB := Lib.hid (SB.out.below hb)
            replace HB := Lib.hid (below_then HB.out hb)
            clear hb hb0 SX KNN HZ3
            rw [hdr0] at ho
            obtain ⟨ox, oc, rfl⟩ := ho.form
            clear ho
            obtain ⟨qq0, qq1, qq2, qq3, qq4, qq5, qq6⟩ := cel7 ZS.out
            obtain ⟨pq0, pq1, pq2, pq3, pq4⟩ := cel5r ZP.out
            obtain ⟨aq0, aq1, aq2, aq3, aq4, aq5, aq6⟩ := cel7 ZA.out
            obtain ⟨bq0, bq1, bq2, bq3, bq4, bq5, bq6⟩ := cel7 ZB.out
            go_wp2_with fail
            refine (CX.out _ HB.out).mono ?_
            rintro e v99 ⟨rfl, hb⟩
            go_wp2_with fail
            go_ret
            exact ⟨rfl, below_then HB.out hb⟩
          · cases nb with
            | true =>
              clear hot hnm2
              have HB : Hid (Below w.heap.size w ((w.alloc (.cells #[.int .i64 sc, .string sr, .int .i64 sv, .slice A0 f.length c0, .string sb, .int .i64 st, .slice B0 n0 m0] 37)).alloc (.cells #[.int .i64 pc, .string pr, .int .i64 pv, .slice A1 g.length c1, .string pb] 26))) := ((Below.refl _ _).alloc (Nat.le_refl _) _).alloc (by simp) _
              have ZS : Hid (((w.alloc (.cells #[.int .i64 sc, .string sr, .int .i64 sv, .slice A0 f.length c0, .string sb, .int .i64 st, .slice B0 n0 m0] 37)).alloc (.cells #[.int .i64 pc, .string pr, .int .i64 pv, .slice A1 g.length c1, .string pb] 26)).heap[w.heap.size]? = some (.cells #[.int .i64 sc, .string sr, .int .i64 sv, .slice A0 f.length c0, .string sb, .int .i64 st, .slice B0 n0 m0] 37 (0, 0))) := zero_more (heap_alloc_new w _)
              have zt := heap_alloc_new (w.alloc (.cells #[.int .i64 sc, .string sr, .int .i64 sv, .slice A0 f.length c0, .string sb, .int .i64 st, .slice B0 n0 m0] 37)) (.cells #[.int .i64 pc, .string pr, .int .i64 pv, .slice A1 g.length c1, .string pb] 26)
              rw [show (w.alloc (.cells #[.int .i64 sc, .string sr, .int .i64 sv, .slice A0 f.length c0, .string sb, .int .i64 st, .slice B0 n0 m0] 37)).heap.size = w.heap.size + 1 by simp] at zt
              have ZP := Lib.hid zt
              clear zt
              obtain ⟨qq0, qq1, qq2, qq3, qq4, qq5, qq6⟩ := cel7 ZS.out
              obtain ⟨pq0, pq1, pq2, pq3, pq4⟩ := cel5r ZP.out
              go_enter Tryz.func5, Tryz.ntmps5
              go_wp2_with fail
              refine (KS.out _ HB.out).mono ?_
              rintro e v18 ⟨rfl, hb⟩
              clear qq0 qq1 qq2 qq3 qq4 qq5 qq6 pq0 pq1 pq2 pq3 pq4
              replace ZS := Lib.hid (zero_still hb ZS.out)
              replace ZP := Lib.hid (zero_still hb ZP.out)
              replace HB := Lib.hid (below_then HB.out hb)
              clear hb
              obtain ⟨qq0, qq1, qq2, qq3, qq4, qq5, qq6⟩ := cel7 ZS.out
              obtain ⟨pq0, pq1, pq2, pq3, pq4⟩ := cel5r ZP.out
              go_wp2_with fail
              refine (KP.out _ HB.out).mono ?_
              rintro e v19 ⟨rfl, hb⟩
              clear qq0 qq1 qq2 qq3 qq4 qq5 qq6 pq0 pq1 pq2 pq3 pq4
              replace ZS := Lib.hid (zero_still hb ZS.out)
              replace ZP := Lib.hid (zero_still hb ZP.out)
              replace HB := Lib.hid (below_then HB.out hb)
              clear hb
              obtain ⟨qq0, qq1, qq2, qq3, qq4, qq5, qq6⟩ := cel7 ZS.out
              obtain ⟨pq0, pq1, pq2, pq3, pq4⟩ := cel5r ZP.out
              go_wp2_with fail
              refine (KK.out _ HB.out).mono ?_
              rintro e v20 ⟨rfl, hb⟩
              clear qq0 qq1 qq2 qq3 qq4 qq5 qq6 pq0 pq1 pq2 pq3 pq4
              replace ZS := Lib.hid (zero_still hb ZS.out)
              replace ZP := Lib.hid (zero_still hb ZP.out)
              replace HB := Lib.hid (below_then HB.out hb)
              clear hb
              obtain ⟨qq0, qq1, qq2, qq3, qq4, qq5, qq6⟩ := cel7 ZS.out
              obtain ⟨pq0, pq1, pq2, pq3, pq4⟩ := cel5r ZP.out
              go_wp2_with fail
              refine (K1.out _ HB.out).mono ?_
              rintro e v21 ⟨X1, e1, D1, q1, k1, rfl, hsA, hfA, hkA, hoA, hb⟩
              clear qq0 qq1 qq2 qq3 qq4 qq5 qq6 pq0 pq1 pq2 pq3 pq4
              replace ZS := Lib.hid (zero_still hb ZS.out)
              replace ZP := Lib.hid (zero_still hb ZP.out)
              replace HB := Lib.hid (below_then HB.out hb)
              have SA := Lib.hid hsA
              clear hsA
              have hq1 : n0 = q1 := by have h1 := hkA.len; have h2 := HKL.out; omega
              subst hq1
              have KA := Lib.hid hkA
              clear hb hkA hfA hoA
              have HKb := Lib.hid (HKK.out.below HB.out)
              have hbu : Below v21.heap.size v21 (v21.alloc (.cells #[.int .i64 sc, .string sr, .int .i64 sv, .slice X1 FM.length e1, .string sb, .int .i64 now, .slice D1 n0 k1] 37)) := (Below.refl _ _).alloc (Nat.le_refl _) _
              replace ZS := Lib.hid (zero_still hbu ZS.out)
              replace ZP := Lib.hid (zero_still hbu ZP.out)
              replace SA := Lib.hid (SA.out.below hbu)
              replace KA := Lib.hid (KA.out.below hbu)
              replace HKb := Lib.hid (HKb.out.below hbu)
              replace HB := Lib.hid (below_then HB.out hbu)
              have zn := heap_alloc_new v21 (.cells #[.int .i64 sc, .string sr, .int .i64 sv, .slice X1 FM.length e1, .string sb, .int .i64 now, .slice D1 n0 k1] 37)
              obtain ⟨ga, hga⟩ : ∃ q, v21.heap.size = q := ⟨_, rfl⟩
              rw [hga] at zn
              have ZA := Lib.hid zn
              clear hbu zn
              obtain ⟨qq0, qq1, qq2, qq3, qq4, qq5, qq6⟩ := cel7 ZS.out
              obtain ⟨pq0, pq1, pq2, pq3, pq4⟩ := cel5r ZP.out
              obtain ⟨aq0, aq1, aq2, aq3, aq4, aq5, aq6⟩ := cel7 ZA.out
              go_wp2_with fail
              refine (K2.out _ HB.out _ _ _ _ SA.out KA.out).mono ?_
              rintro e v22 ⟨X2, e2, D2, q2, k2, rfl, hsB, hfB, hkB, hoB, hb⟩
              clear qq0 qq1 qq2 qq3 qq4 qq5 qq6 pq0 pq1 pq2 pq3 pq4 aq0 aq1 aq2 aq3 aq4 aq5 aq6
              replace ZS := Lib.hid (zero_still hb ZS.out)
              replace ZP := Lib.hid (zero_still hb ZP.out)
              replace ZA := Lib.hid (zero_still hb ZA.out)
              replace SA := Lib.hid (SA.out.below hb)
              replace KA := Lib.hid (KA.out.below hb)
              replace HKb := Lib.hid (HKb.out.below hb)
              replace HB := Lib.hid (below_then HB.out hb)
              have SB := Lib.hid hsB
              clear hsB
              have hq2 : n0 = q2 := by have h1 := hkB.len; have h2 := HKL.out; omega
              subst hq2
              clear hb hkB hfB hoB
              have hbu : Below v22.heap.size v22 (v22.alloc (.cells #[.int .i64 sc, .string sr, .int .i64 sv, .slice X2 FM.length e2, .string sb, .int .i64 now, .slice D2 n0 k2] 37)) := (Below.refl _ _).alloc (Nat.le_refl _) _
              replace ZS := Lib.hid (zero_still hbu ZS.out)
              replace ZP := Lib.hid (zero_still hbu ZP.out)
              replace ZA := Lib.hid (zero_still hbu ZA.out)
              replace SA := Lib.hid (SA.out.below hbu)
              replace KA := Lib.hid (KA.out.below hbu)
              replace HKb := Lib.hid (HKb.out.below hbu)
              replace SB := Lib.hid (SB.out.below hbu)
              replace HB := Lib.hid (below_then HB.out hbu)
              have zn := heap_alloc_new v22 (.cells #[.int .i64 sc, .string sr, .int .i64 sv, .slice X2 FM.length e2, .string sb, .int .i64 now, .slice D2 n0 k2] 37)
              obtain ⟨gb, hgb⟩ : ∃ q, v22.heap.size = q := ⟨_, rfl⟩
              rw [hgb] at zn
              have ZB := Lib.hid zn
              clear hbu zn
              obtain ⟨qq0, qq1, qq2, qq3, qq4, qq5, qq6⟩ := cel7 ZS.out
              obtain ⟨pq0, pq1, pq2, pq3, pq4⟩ := cel5r ZP.out
              obtain ⟨aq0, aq1, aq2, aq3, aq4, aq5, aq6⟩ := cel7 ZA.out
              obtain ⟨bq0, bq1, bq2, bq3, bq4, bq5, bq6⟩ := cel7 ZB.out
              go_wp2_with fail
              refine (K7.out _ _ _ _ _ SA.out SB.out).mono ?_
              rintro e v23 ⟨rfl, hb⟩
              clear qq0 qq1 qq2 qq3 qq4 qq5 qq6 pq0 pq1 pq2 pq3 pq4 aq0 aq1 aq2 aq3 aq4 aq5 aq6 bq0 bq1 bq2 bq3 bq4 bq5 bq6
              replace ZS := Lib.hid (zero_still hb ZS.out)
              replace ZP := Lib.hid (zero_still hb ZP.out)
              replace ZA := Lib.hid (zero_still hb ZA.out)
              replace ZB := Lib.hid (zero_still hb ZB.out)
              replace SA := Lib.hid (SA.out.below hb)
              replace KA := Lib.hid (KA.out.below hb)
              replace HKb := Lib.hid (HKb.out.below hb)
              replace SB := Lib.hid (SB.out.below hb)
              replace HB := Lib.hid (below_then HB.out hb)
              clear hb
              obtain ⟨qq0, qq1, qq2, qq3, qq4, qq5, qq6⟩ := cel7 ZS.out
              obtain ⟨pq0, pq1, pq2, pq3, pq4⟩ := cel5r ZP.out
              obtain ⟨aq0, aq1, aq2, aq3, aq4, aq5, aq6⟩ := cel7 ZA.out
              obtain ⟨bq0, bq1, bq2, bq3, bq4, bq5, bq6⟩ := cel7 ZB.out
              go_wp2_with fail
              refine (K8.out _ _ _ KA.out HKb.out).mono ?_
              rintro e v24 ⟨rfl, hb⟩
              clear qq0 qq1 qq2 qq3 qq4 qq5 qq6 pq0 pq1 pq2 pq3 pq4 aq0 aq1 aq2 aq3 aq4 aq5 aq6 bq0 bq1 bq2 bq3 bq4 bq5 bq6
              replace ZS := Lib.hid (zero_still hb ZS.out)
              replace ZP := Lib.hid (zero_still hb ZP.out)
              replace ZA := Lib.hid (zero_still hb ZA.out)
              replace ZB := Lib.hid (zero_still hb ZB.out)
              replace SA := Lib.hid (SA.out.below hb)
              replace KA := Lib.hid (KA.out.below hb)
              replace HKb := Lib.hid (HKb.out.below hb)
              replace SB := Lib.hid (SB.out.below hb)
              replace HB := Lib.hid (below_then HB.out hb)
              clear hb
              obtain ⟨qq0, qq1, qq2, qq3, qq4, qq5, qq6⟩ := cel7 ZS.out
              obtain ⟨pq0, pq1, pq2, pq3, pq4⟩ := cel5r ZP.out
              obtain ⟨aq0, aq1, aq2, aq3, aq4, aq5, aq6⟩ := cel7 ZA.out
              obtain ⟨bq0, bq1, bq2, bq3, bq4, bq5, bq6⟩ := cel7 ZB.out
              have sx := (SlF.one2 v24 43 43 (a3, (⟨#[]⟩ : ByteArray)) ⟨by have := HNM.out; show a3.size ≤ _; unfold maxLen; omega, of_decide_eq_true rfl⟩).alloc (.cells #[.string ⟨#[65, 103, 101]⟩, .string ⟨#[68, 97, 116, 101]⟩] 9)
              have kn := SlS.texts ((v24.alloc (.cells #[.string a3, .string ⟨#[]⟩] 43)).alloc (.cells #[.string a3, .string ⟨#[]⟩] 43)) 9 [⟨#[65, 103, 101]⟩, ⟨#[68, 97, 116, 101]⟩] (by decide)
              rw [show (v24.alloc (.cells #[.string a3, .string ⟨#[]⟩] 43)).heap.size = v24.heap.size + 1 by simp] at sx
              rw [show ((v24.alloc (.cells #[.string a3, .string ⟨#[]⟩] 43)).alloc (.cells #[.string a3, .string ⟨#[]⟩] 43)).heap.size = v24.heap.size + 1 + 1 by simp] at kn
              have SX : Hid (SlF (((v24.alloc (.cells #[.string a3, .string ⟨#[]⟩] 43)).alloc (.cells #[.string a3, .string ⟨#[]⟩] 43)).alloc (.cells #[.string ⟨#[65, 103, 101]⟩, .string ⟨#[68, 97, 116, 101]⟩] 9)) (some ⟨v24.heap.size + 1, 0, none⟩) 1 1 [(a3, (⟨#[]⟩ : ByteArray))]) := sx
              have KNN : Hid (SlS (((v24.alloc (.cells #[.string a3, .string ⟨#[]⟩] 43)).alloc (.cells #[.string a3, .string ⟨#[]⟩] 43)).alloc (.cells #[.string ⟨#[65, 103, 101]⟩, .string ⟨#[68, 97, 116, 101]⟩] 9)) (some ⟨v24.heap.size + 1 + 1, 0, none⟩) 2 2 c2N) := kn
              clear sx kn
              have HZ3 : Hid (Below v24.heap.size v24 (((v24.alloc (.cells #[.string a3, .string ⟨#[]⟩] 43)).alloc (.cells #[.string a3, .string ⟨#[]⟩] 43)).alloc (.cells #[.string ⟨#[65, 103, 101]⟩, .string ⟨#[68, 97, 116, 101]⟩] 9))) := alls_below [.cells #[.string a3, .string ⟨#[]⟩] 43, .cells #[.string a3, .string ⟨#[]⟩] 43, .cells #[.string ⟨#[65, 103, 101]⟩, .string ⟨#[68, 97, 116, 101]⟩] 9] v24
              go_wp2_with fail
              refine (K9.out _ _ _ SX.out KNN.out).mono ?_
              rintro e v25 ⟨ov, rfl, ho, hb0⟩
              have hb := below_then HZ3.out hb0
              clear qq0 qq1 qq2 qq3 qq4 qq5 qq6 pq0 pq1 pq2 pq3 pq4 aq0 aq1 aq2 aq3 aq4 aq5 aq6 bq0 bq1 bq2 bq3 bq4 bq5 bq6
              replace ZS := Lib.hid (zero_still hb ZS.out)
              replace ZP := Lib.hid (zero_still hb ZP.out)
              replace ZA := Lib.hid (zero_still hb ZA.out)
              replace ZB := Lib.hid (zero_still hb ZB.out)
              replace SA := Lib.hid (SA.out.below hb)
              replace KA := Lib.hid (KA.out.below hb)
              replace HKb := Lib.hid (HKb.out.below hb)
              replace SB := Lib.hid (SB.out.below hb)
              replace HB := Lib.hid (below_then HB.out hb)
              clear hb hb0 SX KNN HZ3
              rw [hdr0] at ho
              obtain ⟨ox, oc, rfl⟩ := ho.form
              clear ho
              obtain ⟨qq0, qq1, qq2, qq3, qq4, qq5, qq6⟩ := cel7 ZS.out
              obtain ⟨pq0, pq1, pq2, pq3, pq4⟩ := cel5r ZP.out
              obtain ⟨aq0, aq1, aq2, aq3, aq4, aq5, aq6⟩ := cel7 ZA.out
              obtain ⟨bq0, bq1, bq2, bq3, bq4, bq5, bq6⟩ := cel7 ZB.out
              go_wp2_with fail
              refine (GS.out _ HB.out).mono ?_
              rintro e v26 ⟨rfl, hb⟩
              clear qq0 qq1 qq2 qq3 qq4 qq5 qq6 pq0 pq1 pq2 pq3 pq4 aq0 aq1 aq2 aq3 aq4 aq5 aq6 bq0 bq1 bq2 bq3 bq4 bq5 bq6
              replace ZS := Lib.hid (zero_still hb ZS.out)
              replace ZP := Lib.hid (zero_still hb ZP.out)
              replace ZA := Lib.hid (zero_still hb ZA.out)
              replace ZB := Lib.hid (zero_still hb ZB.out)
              replace SA := Lib.hid (SA.out.below hb)
              replace KA := Lib.hid (KA.out.below hb)
              replace HKb := Lib.hid (HKb.out.below hb)
              replace SB := Lib.hid (SB.out.below hb)
              replace HB := Lib.hid (below_then HB.out hb)
              clear hb
              obtain ⟨qq0, qq1, qq2, qq3, qq4, qq5, qq6⟩ := cel7 ZS.out
              obtain ⟨pq0, pq1, pq2, pq3, pq4⟩ := cel5r ZP.out
              obtain ⟨aq0, aq1, aq2, aq3, aq4, aq5, aq6⟩ := cel7 ZA.out
              obtain ⟨bq0, bq1, bq2, bq3, bq4, bq5, bq6⟩ := cel7 ZB.out
              go_wp2_with fail
              refine (GA.out _ _ _ SA.out).mono ?_
              rintro e v27 ⟨rfl, hb⟩
              clear qq0 qq1 qq2 qq3 qq4 qq5 qq6 pq0 pq1 pq2 pq3 pq4 aq0 aq1 aq2 aq3 aq4 aq5 aq6 bq0 bq1 bq2 bq3 bq4 bq5 bq6
              replace ZS := Lib.hid (zero_still hb ZS.out)
              replace ZP := Lib.hid (zero_still hb ZP.out)
              replace ZA := Lib.hid (zero_still hb ZA.out)
              replace ZB := Lib.hid (zero_still hb ZB.out)
              replace SA := Lib.hid (SA.out.below hb)
              replace KA := Lib.hid (KA.out.below hb)
              replace HKb := Lib.hid (HKb.out.below hb)
              replace SB := Lib.hid (SB.out.below hb)
              replace HB := Lib.hid (below_then HB.out hb)
              clear hb
              obtain ⟨qq0, qq1, qq2, qq3, qq4, qq5, qq6⟩ := cel7 ZS.out
              obtain ⟨pq0, pq1, pq2, pq3, pq4⟩ := cel5r ZP.out
              obtain ⟨aq0, aq1, aq2, aq3, aq4, aq5, aq6⟩ := cel7 ZA.out
              obtain ⟨bq0, bq1, bq2, bq3, bq4, bq5, bq6⟩ := cel7 ZB.out
              go_wp2_with fail
              refine (GN.out _ HB.out).mono ?_
              rintro e v28 ⟨rfl, hb⟩
              clear qq0 qq1 qq2 qq3 qq4 qq5 qq6 pq0 pq1 pq2 pq3 pq4 aq0 aq1 aq2 aq3 aq4 aq5 aq6 bq0 bq1 bq2 bq3 bq4 bq5 bq6
              replace ZS := Lib.hid (zero_still hb ZS.out)
              replace ZP := Lib.hid (zero_still hb ZP.out)
              replace ZA := Lib.hid (zero_still hb ZA.out)
              replace ZB := Lib.hid (zero_still hb ZB.out)
              replace SA := Lib.hid (SA.out.below hb)
              replace KA := Lib.hid (KA.out.below hb)
              replace HKb := Lib.hid (HKb.out.below hb)
              replace SB := Lib.hid (SB.out.below hb)
              replace HB := Lib.hid (below_then HB.out hb)
              clear hb
              obtain ⟨qq0, qq1, qq2, qq3, qq4, qq5, qq6⟩ := cel7 ZS.out
              obtain ⟨pq0, pq1, pq2, pq3, pq4⟩ := cel5r ZP.out
              obtain ⟨aq0, aq1, aq2, aq3, aq4, aq5, aq6⟩ := cel7 ZA.out
              obtain ⟨bq0, bq1, bq2, bq3, bq4, bq5, bq6⟩ := cel7 ZB.out
              go_wp2_with fail
              refine (CX.out _ HB.out).mono ?_
              rintro e v99 ⟨rfl, hb⟩
              go_wp2_with fail
              go_ret
              exact ⟨rfl, below_then HB.out hb⟩
            | false =>
              have hiw := hot hnm2 rfl
              subst hiw
              have hww : (is_.toList == is_.toList) = true := by simp
              clear hot hnm2
              have HB : Hid (Below w.heap.size w ((w.alloc (.cells #[.int .i64 sc, .string sr, .int .i64 sv, .slice A0 f.length c0, .string sb, .int .i64 st, .slice B0 n0 m0] 37)).alloc (.cells #[.int .i64 pc, .string pr, .int .i64 pv, .slice A1 g.length c1, .string pb] 26))) := ((Below.refl _ _).alloc (Nat.le_refl _) _).alloc (by simp) _
              have ZS : Hid (((w.alloc (.cells #[.int .i64 sc, .string sr, .int .i64 sv, .slice A0 f.length c0, .string sb, .int .i64 st, .slice B0 n0 m0] 37)).alloc (.cells #[.int .i64 pc, .string pr, .int .i64 pv, .slice A1 g.length c1, .string pb] 26)).heap[w.heap.size]? = some (.cells #[.int .i64 sc, .string sr, .int .i64 sv, .slice A0 f.length c0, .string sb, .int .i64 st, .slice B0 n0 m0] 37 (0, 0))) := zero_more (heap_alloc_new w _)
              have zt := heap_alloc_new (w.alloc (.cells #[.int .i64 sc, .string sr, .int .i64 sv, .slice A0 f.length c0, .string sb, .int .i64 st, .slice B0 n0 m0] 37)) (.cells #[.int .i64 pc, .string pr, .int .i64 pv, .slice A1 g.length c1, .string pb] 26)
              rw [show (w.alloc (.cells #[.int .i64 sc, .string sr, .int .i64 sv, .slice A0 f.length c0, .string sb, .int .i64 st, .slice B0 n0 m0] 37)).heap.size = w.heap.size + 1 by simp] at zt
              have ZP := Lib.hid zt
              clear zt
              obtain ⟨qq0, qq1, qq2, qq3, qq4, qq5, qq6⟩ := cel7 ZS.out
              obtain ⟨pq0, pq1, pq2, pq3, pq4⟩ := cel5r ZP.out
              go_enter Tryz.func5, Tryz.ntmps5
              go_wp2_with fail
              refine (KS.out _ HB.out).mono ?_
              rintro e v29 ⟨rfl, hb⟩
              clear qq0 qq1 qq2 qq3 qq4 qq5 qq6 pq0 pq1 pq2 pq3 pq4
              replace ZS := Lib.hid (zero_still hb ZS.out)
              replace ZP := Lib.hid (zero_still hb ZP.out)
              replace HB := Lib.hid (below_then HB.out hb)
              clear hb
              obtain ⟨qq0, qq1, qq2, qq3, qq4, qq5, qq6⟩ := cel7 ZS.out
              obtain ⟨pq0, pq1, pq2, pq3, pq4⟩ := cel5r ZP.out
              go_wp2_with fail
              refine (KP.out _ HB.out).mono ?_
              rintro e v30 ⟨rfl, hb⟩
              clear qq0 qq1 qq2 qq3 qq4 qq5 qq6 pq0 pq1 pq2 pq3 pq4
              replace ZS := Lib.hid (zero_still hb ZS.out)
              replace ZP := Lib.hid (zero_still hb ZP.out)
              replace HB := Lib.hid (below_then HB.out hb)
              clear hb
              obtain ⟨qq0, qq1, qq2, qq3, qq4, qq5, qq6⟩ := cel7 ZS.out
              obtain ⟨pq0, pq1, pq2, pq3, pq4⟩ := cel5r ZP.out
              go_wp2_with fail
              refine (KK.out _ HB.out).mono ?_
              rintro e v31 ⟨rfl, hb⟩
              clear qq0 qq1 qq2 qq3 qq4 qq5 qq6 pq0 pq1 pq2 pq3 pq4
              replace ZS := Lib.hid (zero_still hb ZS.out)
              replace ZP := Lib.hid (zero_still hb ZP.out)
              replace HB := Lib.hid (below_then HB.out hb)
              clear hb
              obtain ⟨qq0, qq1, qq2, qq3, qq4, qq5, qq6⟩ := cel7 ZS.out
              obtain ⟨pq0, pq1, pq2, pq3, pq4⟩ := cel5r ZP.out
              go_wp2_with fail
              refine (K1.out _ HB.out).mono ?_
              rintro e v32 ⟨X1, e1, D1, q1, k1, rfl, hsA, hfA, hkA, hoA, hb⟩
              clear qq0 qq1 qq2 qq3 qq4 qq5 qq6 pq0 pq1 pq2 pq3 pq4
              replace ZS := Lib.hid (zero_still hb ZS.out)
              replace ZP := Lib.hid (zero_still hb ZP.out)
              replace HB := Lib.hid (below_then HB.out hb)
              have SA := Lib.hid hsA
              clear hsA
              have hq1 : n0 = q1 := by have h1 := hkA.len; have h2 := HKL.out; omega
              subst hq1
              have KA := Lib.hid hkA
              clear hb hkA hfA hoA
              have HKb := Lib.hid (HKK.out.below HB.out)
              have hbu : Below v32.heap.size v32 (v32.alloc (.cells #[.int .i64 sc, .string sr, .int .i64 sv, .slice X1 FM.length e1, .string sb, .int .i64 now, .slice D1 n0 k1] 37)) := (Below.refl _ _).alloc (Nat.le_refl _) _
              replace ZS := Lib.hid (zero_still hbu ZS.out)
              replace ZP := Lib.hid (zero_still hbu ZP.out)
              replace SA := Lib.hid (SA.out.below hbu)
              replace KA := Lib.hid (KA.out.below hbu)
              replace HKb := Lib.hid (HKb.out.below hbu)
              replace HB := Lib.hid (below_then HB.out hbu)
              have zn := heap_alloc_new v32 (.cells #[.int .i64 sc, .string sr, .int .i64 sv, .slice X1 FM.length e1, .string sb, .int .i64 now, .slice D1 n0 k1] 37)
              obtain ⟨ga, hga⟩ : ∃ q, v32.heap.size = q := ⟨_, rfl⟩
              rw [hga] at zn
              have ZA := Lib.hid zn
              clear hbu zn
              obtain ⟨qq0, qq1, qq2, qq3, qq4, qq5, qq6⟩ := cel7 ZS.out
              obtain ⟨pq0, pq1, pq2, pq3, pq4⟩ := cel5r ZP.out
              obtain ⟨aq0, aq1, aq2, aq3, aq4, aq5, aq6⟩ := cel7 ZA.out
              go_wp2_with fail
              refine (K2.out _ HB.out _ _ _ _ SA.out KA.out).mono ?_
              rintro e v33 ⟨X2, e2, D2, q2, k2, rfl, hsB, hfB, hkB, hoB, hb⟩
              clear qq0 qq1 qq2 qq3 qq4 qq5 qq6 pq0 pq1 pq2 pq3 pq4 aq0 aq1 aq2 aq3 aq4 aq5 aq6
              replace ZS := Lib.hid (zero_still hb ZS.out)
              replace ZP := Lib.hid (zero_still hb ZP.out)
              replace ZA := Lib.hid (zero_still hb ZA.out)
              replace SA := Lib.hid (SA.out.below hb)
              replace KA := Lib.hid (KA.out.below hb)
              replace HKb := Lib.hid (HKb.out.below hb)
              replace HB := Lib.hid (below_then HB.out hb)
              have SB := Lib.hid hsB
              clear hsB
              have hq2 : n0 = q2 := by have h1 := hkB.len; have h2 := HKL.out; omega
              subst hq2
              clear hb hkB hfB hoB
              have hbu : Below v33.heap.size v33 (v33.alloc (.cells #[.int .i64 sc, .string sr, .int .i64 sv, .slice X2 FM.length e2, .string sb, .int .i64 now, .slice D2 n0 k2] 37)) := (Below.refl _ _).alloc (Nat.le_refl _) _
              replace ZS := Lib.hid (zero_still hbu ZS.out)
              replace ZP := Lib.hid (zero_still hbu ZP.out)
              replace ZA := Lib.hid (zero_still hbu ZA.out)
              replace SA := Lib.hid (SA.out.below hbu)
              replace KA := Lib.hid (KA.out.below hbu)
              replace HKb := Lib.hid (HKb.out.below hbu)
              replace SB := Lib.hid (SB.out.below hbu)
              replace HB := Lib.hid (below_then HB.out hbu)
              have zn := heap_alloc_new v33 (.cells #[.int .i64 sc, .string sr, .int .i64 sv, .slice X2 FM.length e2, .string sb, .int .i64 now, .slice D2 n0 k2] 37)
              obtain ⟨gb, hgb⟩ : ∃ q, v33.heap.size = q := ⟨_, rfl⟩
              rw [hgb] at zn
              have ZB := Lib.hid zn
              clear hbu zn
              obtain ⟨qq0, qq1, qq2, qq3, qq4, qq5, qq6⟩ := cel7 ZS.out
              obtain ⟨pq0, pq1, pq2, pq3, pq4⟩ := cel5r ZP.out
              obtain ⟨aq0, aq1, aq2, aq3, aq4, aq5, aq6⟩ := cel7 ZA.out
              obtain ⟨bq0, bq1, bq2, bq3, bq4, bq5, bq6⟩ := cel7 ZB.out
              go_wp2_with fail
              refine (K7.out _ _ _ _ _ SA.out SB.out).mono ?_
              rintro e v34 ⟨rfl, hb⟩
              clear qq0 qq1 qq2 qq3 qq4 qq5 qq6 pq0 pq1 pq2 pq3 pq4 aq0 aq1 aq2 aq3 aq4 aq5 aq6 bq0 bq1 bq2 bq3 bq4 bq5 bq6
              replace ZS := Lib.hid (zero_still hb ZS.out)
              replace ZP := Lib.hid (zero_still hb ZP.out)
              replace ZA := Lib.hid (zero_still hb ZA.out)
              replace ZB := Lib.hid (zero_still hb ZB.out)
              replace SA := Lib.hid (SA.out.below hb)
              replace KA := Lib.hid (KA.out.below hb)
              replace HKb := Lib.hid (HKb.out.below hb)
              replace SB := Lib.hid (SB.out.below hb)
              replace HB := Lib.hid (below_then HB.out hb)
              clear hb
              obtain ⟨qq0, qq1, qq2, qq3, qq4, qq5, qq6⟩ := cel7 ZS.out
              obtain ⟨pq0, pq1, pq2, pq3, pq4⟩ := cel5r ZP.out
              obtain ⟨aq0, aq1, aq2, aq3, aq4, aq5, aq6⟩ := cel7 ZA.out
              obtain ⟨bq0, bq1, bq2, bq3, bq4, bq5, bq6⟩ := cel7 ZB.out
              go_wp2_with fail
              refine (K8.out _ _ _ KA.out HKb.out).mono ?_
              rintro e v35 ⟨rfl, hb⟩
              clear qq0 qq1 qq2 qq3 qq4 qq5 qq6 pq0 pq1 pq2 pq3 pq4 aq0 aq1 aq2 aq3 aq4 aq5 aq6 bq0 bq1 bq2 bq3 bq4 bq5 bq6
              replace ZS := Lib.hid (zero_still hb ZS.out)
              replace ZP := Lib.hid (zero_still hb ZP.out)
              replace ZA := Lib.hid (zero_still hb ZA.out)
              replace ZB := Lib.hid (zero_still hb ZB.out)
              replace SA := Lib.hid (SA.out.below hb)
              replace KA := Lib.hid (KA.out.below hb)
              replace HKb := Lib.hid (HKb.out.below hb)
              replace SB := Lib.hid (SB.out.below hb)
              replace HB := Lib.hid (below_then HB.out hb)
              clear hb
              obtain ⟨qq0, qq1, qq2, qq3, qq4, qq5, qq6⟩ := cel7 ZS.out
              obtain ⟨pq0, pq1, pq2, pq3, pq4⟩ := cel5r ZP.out
              obtain ⟨aq0, aq1, aq2, aq3, aq4, aq5, aq6⟩ := cel7 ZA.out
              obtain ⟨bq0, bq1, bq2, bq3, bq4, bq5, bq6⟩ := cel7 ZB.out
              have sx := (SlF.one2 v35 43 43 (a3, (⟨#[]⟩ : ByteArray)) ⟨by have := HNM.out; show a3.size ≤ _; unfold maxLen; omega, of_decide_eq_true rfl⟩).alloc (.cells #[.string ⟨#[65, 103, 101]⟩, .string ⟨#[68, 97, 116, 101]⟩] 9)
              have kn := SlS.texts ((v35.alloc (.cells #[.string a3, .string ⟨#[]⟩] 43)).alloc (.cells #[.string a3, .string ⟨#[]⟩] 43)) 9 [⟨#[65, 103, 101]⟩, ⟨#[68, 97, 116, 101]⟩] (by decide)
              rw [show (v35.alloc (.cells #[.string a3, .string ⟨#[]⟩] 43)).heap.size = v35.heap.size + 1 by simp] at sx
              rw [show ((v35.alloc (.cells #[.string a3, .string ⟨#[]⟩] 43)).alloc (.cells #[.string a3, .string ⟨#[]⟩] 43)).heap.size = v35.heap.size + 1 + 1 by simp] at kn
              have SX : Hid (SlF (((v35.alloc (.cells #[.string a3, .string ⟨#[]⟩] 43)).alloc (.cells #[.string a3, .string ⟨#[]⟩] 43)).alloc (.cells #[.string ⟨#[65, 103, 101]⟩, .string ⟨#[68, 97, 116, 101]⟩] 9)) (some ⟨v35.heap.size + 1, 0, none⟩) 1 1 [(a3, (⟨#[]⟩ : ByteArray))]) := sx
              have KNN : Hid (SlS (((v35.alloc (.cells #[.string a3, .string ⟨#[]⟩] 43)).alloc (.cells #[.string a3, .string ⟨#[]⟩] 43)).alloc (.cells #[.string ⟨#[65, 103, 101]⟩, .string ⟨#[68, 97, 116, 101]⟩] 9)) (some ⟨v35.heap.size + 1 + 1, 0, none⟩) 2 2 c2N) := kn
              clear sx kn
              have HZ3 : Hid (Below v35.heap.size v35 (((v35.alloc (.cells #[.string a3, .string ⟨#[]⟩] 43)).alloc (.cells #[.string a3, .string ⟨#[]⟩] 43)).alloc (.cells #[.string ⟨#[65, 103, 101]⟩, .string ⟨#[68, 97, 116, 101]⟩] 9))) := alls_below [.cells #[.string a3, .string ⟨#[]⟩] 43, .cells #[.string a3, .string ⟨#[]⟩] 43, .cells #[.string ⟨#[65, 103, 101]⟩, .string ⟨#[68, 97, 116, 101]⟩] 9] v35
              go_wp2_with fail
              refine (K9.out _ _ _ SX.out KNN.out).mono ?_
              rintro e v36 ⟨ov, rfl, ho, hb0⟩
              have hb := below_then HZ3.out hb0
              clear qq0 qq1 qq2 qq3 qq4 qq5 qq6 pq0 pq1 pq2 pq3 pq4 aq0 aq1 aq2 aq3 aq4 aq5 aq6 bq0 bq1 bq2 bq3 bq4 bq5 bq6
              replace ZS := Lib.hid (zero_still hb ZS.out)
              replace ZP := Lib.hid (zero_still hb ZP.out)
              replace ZA := Lib.hid (zero_still hb ZA.out)
              replace ZB := Lib.hid (zero_still hb ZB.out)
              replace SA := Lib.hid (SA.out.below hb)
              replace KA := Lib.hid (KA.out.below hb)
              replace HKb := Lib.hid (HKb.out.below hb)
              replace SB := Lib.hid (SB.out.below hb)
              replace HB := Lib.hid (below_then HB.out hb)
              clear hb hb0 SX KNN HZ3
              rw [hdr0] at ho
              obtain ⟨ox, oc, rfl⟩ := ho.form
              clear ho
              obtain ⟨qq0, qq1, qq2, qq3, qq4, qq5, qq6⟩ := cel7 ZS.out
              obtain ⟨pq0, pq1, pq2, pq3, pq4⟩ := cel5r ZP.out
              obtain ⟨aq0, aq1, aq2, aq3, aq4, aq5, aq6⟩ := cel7 ZA.out
              obtain ⟨bq0, bq1, bq2, bq3, bq4, bq5, bq6⟩ := cel7 ZB.out
              go_wp2_with fail
              refine (GS.out _ HB.out).mono ?_
              rintro e v37 ⟨rfl, hb⟩
              clear qq0 qq1 qq2 qq3 qq4 qq5 qq6 pq0 pq1 pq2 pq3 pq4 aq0 aq1 aq2 aq3 aq4 aq5 aq6 bq0 bq1 bq2 bq3 bq4 bq5 bq6
              replace ZS := Lib.hid (zero_still hb ZS.out)
              replace ZP := Lib.hid (zero_still hb ZP.out)
              replace ZA := Lib.hid (zero_still hb ZA.out)
              replace ZB := Lib.hid (zero_still hb ZB.out)
              replace SA := Lib.hid (SA.out.below hb)
              replace KA := Lib.hid (KA.out.below hb)
              replace HKb := Lib.hid (HKb.out.below hb)
              replace SB := Lib.hid (SB.out.below hb)
              replace HB := Lib.hid (below_then HB.out hb)
              clear hb
              obtain ⟨qq0, qq1, qq2, qq3, qq4, qq5, qq6⟩ := cel7 ZS.out
              obtain ⟨pq0, pq1, pq2, pq3, pq4⟩ := cel5r ZP.out
              obtain ⟨aq0, aq1, aq2, aq3, aq4, aq5, aq6⟩ := cel7 ZA.out
              obtain ⟨bq0, bq1, bq2, bq3, bq4, bq5, bq6⟩ := cel7 ZB.out
              go_wp2_with fail
              refine (GA.out _ _ _ SA.out).mono ?_
              rintro e v38 ⟨rfl, hb⟩
              clear qq0 qq1 qq2 qq3 qq4 qq5 qq6 pq0 pq1 pq2 pq3 pq4 aq0 aq1 aq2 aq3 aq4 aq5 aq6 bq0 bq1 bq2 bq3 bq4 bq5 bq6
              replace ZS := Lib.hid (zero_still hb ZS.out)
              replace ZP := Lib.hid (zero_still hb ZP.out)
              replace ZA := Lib.hid (zero_still hb ZA.out)
              replace ZB := Lib.hid (zero_still hb ZB.out)
              replace SA := Lib.hid (SA.out.below hb)
              replace KA := Lib.hid (KA.out.below hb)
              replace HKb := Lib.hid (HKb.out.below hb)
              replace SB := Lib.hid (SB.out.below hb)
              replace HB := Lib.hid (below_then HB.out hb)
              clear hb
              obtain ⟨qq0, qq1, qq2, qq3, qq4, qq5, qq6⟩ := cel7 ZS.out
              obtain ⟨pq0, pq1, pq2, pq3, pq4⟩ := cel5r ZP.out
              obtain ⟨aq0, aq1, aq2, aq3, aq4, aq5, aq6⟩ := cel7 ZA.out
              obtain ⟨bq0, bq1, bq2, bq3, bq4, bq5, bq6⟩ := cel7 ZB.out
              go_wp2_with fail
              refine (GN.out _ HB.out).mono ?_
              rintro e v39 ⟨rfl, hb⟩
              clear qq0 qq1 qq2 qq3 qq4 qq5 qq6 pq0 pq1 pq2 pq3 pq4 aq0 aq1 aq2 aq3 aq4 aq5 aq6 bq0 bq1 bq2 bq3 bq4 bq5 bq6
              replace ZS := Lib.hid (zero_still hb ZS.out)
              replace ZP := Lib.hid (zero_still hb ZP.out)
              replace ZA := Lib.hid (zero_still hb ZA.out)
              replace ZB := Lib.hid (zero_still hb ZB.out)
              replace SA := Lib.hid (SA.out.below hb)
              replace KA := Lib.hid (KA.out.below hb)
              replace HKb := Lib.hid (HKb.out.below hb)
              replace SB := Lib.hid (SB.out.below hb)
              replace HB := Lib.hid (below_then HB.out hb)
              clear hb
              obtain ⟨qq0, qq1, qq2, qq3, qq4, qq5, qq6⟩ := cel7 ZS.out
              obtain ⟨pq0, pq1, pq2, pq3, pq4⟩ := cel5r ZP.out
              obtain ⟨aq0, aq1, aq2, aq3, aq4, aq5, aq6⟩ := cel7 ZA.out
              obtain ⟨bq0, bq1, bq2, bq3, bq4, bq5, bq6⟩ := cel7 ZB.out
              go_wp2_with fail
              refine (CX.out _ HB.out).mono ?_
              rintro e v99 ⟨rfl, hb⟩
              go_wp2_with fail
              go_ret
              exact ⟨rfl, below_then HB.out hb⟩

theorem door_met (os : Os) (args : Array Value) : laidMetH Tryz.prog Rows.condsAgainRow.laid ((World.laidAll Tryz.prog os Rows.condsAgainRow.laid).forCall (fun _ _ => 0) ⟨#[], args, []⟩).memory := by
  rw [MakeChecks.laidMetH_plain _ _ _ (by kernel_rfl)]
  exact laidMet_laidAll _ (by kernel_rfl) (by kernel_rfl)

set_option maxRecDepth 100000 in
theorem lifted (os : Os) (started : os.Started) (H : Type) (enc : TypeId × Value → H) :
    ReturnsInHanded {} Tryz.checked os 5 .any (fun w args => (Rows.condsAgainSpec.pre enc Tryz.prog Tryz.f5 [] false w args ∧ laidMetH Tryz.prog Rows.condsAgainRow.laid w) ∧ sizedMet enc Tryz.prog Tryz.f5 (OpenSpec.ofChange Rows.condsAgainSpec) false w args) (Rows.condsAgainSpec.post enc Tryz.prog Tryz.f5 false true false false) := by
  refine returns_and_shaped (C := Tryz.checked) (X := fun w _ => laidMetH Tryz.prog Rows.condsAgainRow.laid w) (fun _ _ _ hh h => h.of_heap hh) own started (by kernel_rfl) Tryz.func5
    (ChangeSpec.witness_shaped (enc := enc) (C := Tryz.checked) (os := os) (X := fun w _ => laidMetH Tryz.prog Rows.condsAgainRow.laid w) false (World.laidAll Tryz.prog os Rows.condsAgainRow.laid) #[.agg #[.int .i64 0, .string ByteArray.empty, .int .i64 0, .slice none 0 0, .string ByteArray.empty, .int .i64 0, .slice none 0 0], .agg #[.int .i64 0, .string ByteArray.empty, .int .i64 0, .slice none 0 0, .string ByteArray.empty], .int .i64 0, .string ByteArray.empty] 8 rfl (World.shaped_of_ZipB (by kernel_rfl) (by kernel_rfl)) (by kernel_rfl) (by kernel_rfl) (by kernel_rfl) (door_met os _)) ?_
  intro W base args ds gs before hval0 hW hL hsh
  have hval : ∀ (j : Nat) t v, Tryz.f5.params[j]? = some t → args[j]? = some v → Value.okWide Tryz.prog W .any base t v := hval0
  have hW' := hW
  obtain ⟨p, q, hA0, hV, rfl, hfz, hnd⟩ := hW
  have hA : DataW.TrodAll enc Tryz.prog W 0 (fun _ => true) true Tryz.f5.params.toList args.toList ds p := hA0
  rw [Tryz.params5] at hA hval
  obtain ⟨v0, vs0, d0, ds0, p0, q0, hargs, rfl, rfl, h0, r0⟩ := trodAll_cons hA
  obtain ⟨v1, vs1, d1, ds1, p1, q1, rfl, rfl, rfl, h1, r1⟩ := trodAll_cons r0
  obtain ⟨v2, vs2, d2, ds2, p2, q2, rfl, rfl, rfl, h2, r2⟩ := trodAll_cons r1
  obtain ⟨v3, vs3, d3, ds3, p3, q3, rfl, rfl, rfl, h3, r3⟩ := trodAll_cons r2
  obtain ⟨rfl, rfl, rfl⟩ := trodAll_nil r3
  obtain rfl : args = #[v0, v1, v2, v3] := by cases args; simp_all
  obtain ⟨rfl, rfl⟩ := trodVars_none hV
  have k0 := h0
  have lt0 : ∀ x ∈ p0, x.block < W.heap.size := by obtain ⟨m, hm⟩ := k0; exact DataW.trod_lt m _ _ _ hm
  obtain ⟨a0, A0, c0, B0, n0, m0, K0, rfl, w0⟩ := WfK.of_trod Tryz.underlying37 (by kernel_rfl) rfl rfl rfl (by kernel_rfl) (by kernel_rfl) (by kernel_rfl) Tryz.underlying26 Tryz.underlying3 Tryz.underlying35 rfl rfl rfl rfl rfl (by kernel_rfl) (by kernel_rfl) (by kernel_rfl) (by kernel_rfl) (by kernel_rfl) Tryz.underlying3 Tryz.underlying9 Tryz.underlying3 Tryz.underlying22 Tryz.underlying9 Tryz.underlying43 (by kernel_rfl) rfl rfl (by kernel_rfl) (by kernel_rfl) Tryz.underlying9 Tryz.underlying9 Tryz.underlying71 (by kernel_rfl) rfl rfl rfl (by kernel_rfl) (by kernel_rfl) (by kernel_rfl) Tryz.underlying9 Tryz.underlying4 Tryz.underlying9 (hval 0 37 v0 rfl rfl) h0
  have k1 := h1
  have lt1 : ∀ x ∈ p1, x.block < W.heap.size := by obtain ⟨m, hm⟩ := k1; exact DataW.trod_lt m _ _ _ hm
  obtain ⟨a1, A1, c1, rfl, w1⟩ := WfP.of_trod Tryz.underlying26 (by kernel_rfl) (by kernel_rfl) Tryz.underlying3 Tryz.underlying9 Tryz.underlying3 Tryz.underlying22 Tryz.underlying9 Tryz.underlying43 (by kernel_rfl) rfl rfl (by kernel_rfl) (by kernel_rfl) Tryz.underlying9 Tryz.underlying9 (hval 1 26 v1 rfl rfl) h1
  obtain ⟨a2, rfl, rfl, rfl, w2⟩ := open_int Tryz.underlying3 (hval 2 3 v2 rfl rfl) h2
  obtain ⟨a3, rfl, rfl, rfl, w3⟩ := open_string Tryz.underlying9 (hval 3 9 v3 rfl rfl) h3
  clear hA0 hval0
  refine (walk a0 A0 c0 B0 n0 m0 K0 a1 A1 c1 a2 a3 W w0 w1 w2 w3 hL hsh).mono fun e W' ⟨he, bel⟩ => ?_
  subst he
  exact ⟨_, rfl, _, _, _, [], _, [], hW', trodAll_mk1 (shut_bool Tryz.underlying4 _), (trodAll_cons_mk (Below.trod laidOut (by kernel_rfl) (of_decide_eq_true (by kernel_rfl)) k0 bel lt0) (trodAll_cons_mk (Below.trod laidOut (by kernel_rfl) (of_decide_eq_true (by kernel_rfl)) k1 bel lt1) (trodAll_cons_mk (shut_int Tryz.underlying3 w2) (trodAll_cons_mk (shut_string Tryz.underlying9 w3) trodAll_mk0)))), rfl, bel.frame _, fun h => by cases h⟩

theorem over : Rows.condsAgainRow.holds Tryz.pinned (OpenSpec.ofChange Rows.condsAgainSpec) :=
  OpenClaim.holds_of_wide 5 Tryz.f5 rfl rfl rfl rfl rfl rfl rfl ⟨rfl, rfl, rfl, rfl, rfl⟩ rfl rfl rfl rfl rfl (by kernel_rfl) Tryz.func5 (by kernel_rfl)
    (of_decide_eq_true (by kernel_rfl)) (by unfold Func.isWrapper; first | (rw [if_pos (by decide +kernel)]; kernel_rfl) | (rw [if_neg (by decide +kernel)]; exact ⟨rfl, rfl⟩))
    (fun os started H enc _ => lifted os started H enc)

theorem said : Rows.CondsAgainSaid :=
  over

theorem plain (f : FuncId) (fn : Func) (hf : Tryz.pinned.checked.prog.funcNamed "depot/depotlaw19.CondsAgain" = some f) (hfn : Tryz.pinned.checked.prog.funcs[f]? = some fn) :
    false = Tryz.pinned.checked.prog.looks [] ∧ ∀ (j : Nat) t, fn.params[j]? = some t → Tryz.pinned.checked.prog.wantsStandIn t = false := by
  obtain rfl : f = 5 := Option.some.inj ((show Tryz.prog.funcNamed "depot/depotlaw19.CondsAgain" = some 5 by kernel_rfl).symm.trans hf) |>.symm
  obtain rfl : fn = Tryz.f5 := (Option.some.inj (Tryz.func5.symm.trans hfn)).symm
  refine ⟨by kernel_rfl, fun j t ht => ?_⟩
  rw [Tryz.params5] at ht
  · have hm := Array.mem_of_getElem? ht
    simp only [List.mem_toArray, List.mem_cons, List.not_mem_nil, or_false] at hm
    have all : Tryz.pinned.checked.prog.wantsStandIn 3 = false ∧ Tryz.pinned.checked.prog.wantsStandIn 9 = false ∧ Tryz.pinned.checked.prog.wantsStandIn 26 = false ∧ Tryz.pinned.checked.prog.wantsStandIn 37 = false := ⟨by kernel_rfl, by kernel_rfl, by kernel_rfl, by kernel_rfl⟩
    rcases hm with rfl | rfl | rfl | rfl
    all_goals first | with_reducible exact all.1 | with_reducible exact all.2.1 | with_reducible exact all.2.2.1 | with_reducible exact all.2.2.2

theorem proved : Rows.CondsAgainCardSaid :=
  Claim7.holds_tied_plain_at .later [] _ _ _ _ said (fun _ h => by cases h) (by kernel_rfl) (fun _ h => by cases h) condsAgain_row_tie rfl ⟨rfl, rfl⟩ (by kernel_rfl) rfl plain (by kernel_rfl)
#print axioms proved
end Go.Proofs.YtjkfdjolhmgemaaGreatDoor.condsAgain
