/-
  The law CondsTells (depotlaw19) returns true for every request and reply, and leaves what it was given as it was. No condition.
-/
import Derived.Test.YtjkfdjolhmgemaaGreatDoorRows
import Derived.WalkKit
import Derived.ProofKit
import Derived.OpenShut
import Derived.ShutString
import Derived.ChangeOld
import Derived.Below
import Derived.Test.YtjkfdjolhmgemaaGreatDoorMrgB
import Derived.Test.YtjkfdjolhmgemaaGreatDoorMrgD
import Derived.Test.YtjkfdjolhmgemaaGreatDoorMrgE
import Derived.Test.YtjkfdjolhmgemaaGreatDoorMrgF
import Derived.Test.YtjkfdjolhmgemaaGreatDoorMrgG
import Derived.Test.YtjkfdjolhmgemaaGreatDoorMrgI
import Derived.Test.YtjkfdjolhmgemaaGreatDoorMrgR
import Derived.Test.YtjkfdjolhmgemaaGreatDoorMrgAB
import Derived.Test.YtjkfdjolhmgemaaGreatDoorMrgAC
import Derived.Test.YtjkfdjolhmgemaaGreatDoorMrgAF
import Derived.Test.YtjkfdjolhmgemaaGreatDoorMrgAH
import Derived.Test.YtjkfdjolhmgemaaGreatDoorMrgAL
import Derived.Test.YtjkfdjolhmgemaaGreatDoorMrgAM
import Derived.Test.YtjkfdjolhmgemaaGreatDoorMrgAN
import Derived.Test.YtjkfdjolhmgemaaGreatDoorMrgAR
import Derived.Test.YtjkfdjolhmgemaaGreatDoorMrgAS
import Derived.Test.YtjkfdjolhmgemaaGreatDoorMrgAT
import Derived.Test.YtjkfdjolhmgemaaGreatDoorMrgAU
import Derived.Test.YtjkfdjolhmgemaaGreatDoorMrgAV
import Derived.Test.YtjkfdjolhmgemaaGreatDoorMrgAW
import Derived.Test.YtjkfdjolhmgemaaGreatDoorMrgAX
import Derived.Deep.RegionHeld3
import Derived.Test.YtjkfdjolhmgemaaGreatDoorCards
import Derived.Test.YtjkfdjolhmgemaaGreatDoorTie
import Derived.LaidMore
import Derived.Lib.LaidTab
import Derived.Stop.Joined
import Derived.Lay
set_option linter.unusedSimpArgs false
set_option linter.unusedVariables false
namespace Go.Proofs.YtjkfdjolhmgemaaGreatDoor.condsTells
open Go.ChangeShapes Go.WideShapes Go.ChangeAt Go.RowKit
open Go.ChangeMaps (open_string shut_string)
set_option linter.unusedVariables false

theorem own : ownKnob Tryz.prog.godebug = none := by kernel_rfl
theorem laidOut : laidOutB Tryz.prog = true := by kernel_rfl

set_option maxHeartbeats 8000000 in
set_option maxRecDepth 100000 in
theorem walk (a0 : Rqst) (A0 : Option Addr) (c0 : Nat) (a1 : Rply) (A1 : Option Addr) (c1 : Nat) (w : World) (w0 : WfQ w a0 A0 c0) (w1 : WfP w a1 A1 c1) (hL : laidMetH Tryz.prog Rows.condsTellsRow.laid w) (hsh : w.ShapedOpen Tryz.prog) :
    Calls Tryz.prog 3 #[.agg (rqC a0 A0 c0), .agg (rpC a1 A1 c1)] w fun e w' => e = .returned (.bool true) ∧ Below w.heap.size w w' := by
  have HT := Lib.hid (conTabs hL)
  clear hL hsh
  have CX := Lib.hid (fun W (hW : Below w.heap.size w W) => ex19_any W (HT.out.kept hW))
  have HFQ := Lib.hid (fun W (hW : Below w.heap.size w W) => w0.f.below hW)
  have HFP := Lib.hid (fun W (hW : Below w.heap.size w W) => w1.f.below hW)
  have kq := fun W (hW : Below w.heap.size w W) => r_fewQ5 a0 A0 c0 W (w0.f.below hW)
  have kp := fun W (hW : Below w.heap.size w W) => r_fewP5 a1 A1 c1 W (w1.f.below hW)
  have hqy := fun h => fwQ5_yes (r := a0) h
  have hpy := fun h => fwP5_yes (p := a1) h
  cases hq : fwQ5 a0 with
  | false =>
    rw [hq] at kq
    have KQ := Lib.hid kq
    clear kq kp hqy hpy hq HFQ HFP w0 w1
    obtain ⟨m, t, v, f, b⟩ := a0
    obtain ⟨pc, pr, pv, g, pb⟩ := a1
    unfold rqC rpC at *
    simp only at *
    have HB : Hid (Below w.heap.size w ((w.alloc (.cells #[.string m, .string t, .int .i64 v, .slice A0 f.length c0, .string b] 24)).alloc (.cells #[.int .i64 pc, .string pr, .int .i64 pv, .slice A1 g.length c1, .string pb] 26))) := ((Below.refl _ _).alloc (Nat.le_refl _) _).alloc (by simp) _
    have ZQ : Hid (((w.alloc (.cells #[.string m, .string t, .int .i64 v, .slice A0 f.length c0, .string b] 24)).alloc (.cells #[.int .i64 pc, .string pr, .int .i64 pv, .slice A1 g.length c1, .string pb] 26)).heap[w.heap.size]? = some (.cells #[.string m, .string t, .int .i64 v, .slice A0 f.length c0, .string b] 24 (0, 0))) := zero_more (heap_alloc_new w _)
    have zt := heap_alloc_new (w.alloc (.cells #[.string m, .string t, .int .i64 v, .slice A0 f.length c0, .string b] 24)) (.cells #[.int .i64 pc, .string pr, .int .i64 pv, .slice A1 g.length c1, .string pb] 26)
    rw [show (w.alloc (.cells #[.string m, .string t, .int .i64 v, .slice A0 f.length c0, .string b] 24)).heap.size = w.heap.size + 1 by simp] at zt
    have ZP := Lib.hid zt
    clear zt
    obtain ⟨q0, q1, q2, q3, q4⟩ := cel5r ZQ.out
    obtain ⟨p0, p1, p2, p3, p4⟩ := cel5r ZP.out
    go_enter Tryz.func3, Tryz.ntmps3
    go_wp2_with fail
    refine (KQ.out _ HB.out).mono ?_
    rintro e v1 ⟨rfl, hb⟩
    clear q0 q1 q2 q3 q4 p0 p1 p2 p3 p4
    replace ZQ := Lib.hid (zero_still hb ZQ.out)
    replace ZP := Lib.hid (zero_still hb ZP.out)
    replace HB := Lib.hid (below_then HB.out hb)
    clear hb
    obtain ⟨q0, q1, q2, q3, q4⟩ := cel5r ZQ.out
    obtain ⟨p0, p1, p2, p3, p4⟩ := cel5r ZP.out
    go_wp2_with fail
    refine (CX.out _ HB.out).mono ?_
    rintro e v9 ⟨rfl, hb⟩
    go_wp2_with fail
    go_ret
    exact ⟨rfl, below_then HB.out hb⟩
  | true =>
    cases hp : fwP5 a1 with
    | false =>
      rw [hq] at kq
      rw [hp] at kp
      have KQ := Lib.hid kq
      have KP := Lib.hid kp
      clear kq kp hqy hpy hq hp HFQ HFP w0 w1
      obtain ⟨m, t, v, f, b⟩ := a0
      obtain ⟨pc, pr, pv, g, pb⟩ := a1
      unfold rqC rpC at *
      simp only at *
      have HB : Hid (Below w.heap.size w ((w.alloc (.cells #[.string m, .string t, .int .i64 v, .slice A0 f.length c0, .string b] 24)).alloc (.cells #[.int .i64 pc, .string pr, .int .i64 pv, .slice A1 g.length c1, .string pb] 26))) := ((Below.refl _ _).alloc (Nat.le_refl _) _).alloc (by simp) _
      have ZQ : Hid (((w.alloc (.cells #[.string m, .string t, .int .i64 v, .slice A0 f.length c0, .string b] 24)).alloc (.cells #[.int .i64 pc, .string pr, .int .i64 pv, .slice A1 g.length c1, .string pb] 26)).heap[w.heap.size]? = some (.cells #[.string m, .string t, .int .i64 v, .slice A0 f.length c0, .string b] 24 (0, 0))) := zero_more (heap_alloc_new w _)
      have zt := heap_alloc_new (w.alloc (.cells #[.string m, .string t, .int .i64 v, .slice A0 f.length c0, .string b] 24)) (.cells #[.int .i64 pc, .string pr, .int .i64 pv, .slice A1 g.length c1, .string pb] 26)
      rw [show (w.alloc (.cells #[.string m, .string t, .int .i64 v, .slice A0 f.length c0, .string b] 24)).heap.size = w.heap.size + 1 by simp] at zt
      have ZP := Lib.hid zt
      clear zt
      obtain ⟨q0, q1, q2, q3, q4⟩ := cel5r ZQ.out
      obtain ⟨p0, p1, p2, p3, p4⟩ := cel5r ZP.out
      go_enter Tryz.func3, Tryz.ntmps3
      go_wp2_with fail
      refine (KQ.out _ HB.out).mono ?_
      rintro e v2 ⟨rfl, hb⟩
      clear q0 q1 q2 q3 q4 p0 p1 p2 p3 p4
      replace ZQ := Lib.hid (zero_still hb ZQ.out)
      replace ZP := Lib.hid (zero_still hb ZP.out)
      replace HB := Lib.hid (below_then HB.out hb)
      clear hb
      obtain ⟨q0, q1, q2, q3, q4⟩ := cel5r ZQ.out
      obtain ⟨p0, p1, p2, p3, p4⟩ := cel5r ZP.out
      go_wp2_with fail
      refine (KP.out _ HB.out).mono ?_
      rintro e v3 ⟨rfl, hb⟩
      clear q0 q1 q2 q3 q4 p0 p1 p2 p3 p4
      replace ZQ := Lib.hid (zero_still hb ZQ.out)
      replace ZP := Lib.hid (zero_still hb ZP.out)
      replace HB := Lib.hid (below_then HB.out hb)
      clear hb
      obtain ⟨q0, q1, q2, q3, q4⟩ := cel5r ZQ.out
      obtain ⟨p0, p1, p2, p3, p4⟩ := cel5r ZP.out
      go_wp2_with fail
      refine (CX.out _ HB.out).mono ?_
      rintro e v9 ⟨rfl, hb⟩
      go_wp2_with fail
      go_ret
      exact ⟨rfl, below_then HB.out hb⟩
    | true =>
      rw [hq] at kq
      rw [hp] at kp
      have KQ := Lib.hid kq
      have KP := Lib.hid kp
      have hQ := (hqy hq).1
      have hL := (hpy hp).1
      clear kq kp hqy hpy hq hp w0 w1
      have K1 := Lib.hid (fun W (hW : Below w.heap.size w W) => conS_any a0 A0 c0 a1 A1 c1 W (HFQ.out W hW) hQ (HFP.out W hW) hL (HT.out.kept hW))
      have K2 := Lib.hid (fun W (hW : Below w.heap.size w W) => r_sat a0 A0 c0 a1 A1 c1 W (HFQ.out W hW) hQ (HFP.out W hW) hL)
      have K3 := Lib.hid (fun W (hW : Below w.heap.size w W) => conN_any a1 A1 c1 W (HFP.out W hW) hL (HT.out.kept hW))
      have K4 := Lib.hid (fun W (hW : Below w.heap.size w W) => ntm_at a1 A1 c1 W (HFP.out W hW) hL)
      have K5 := Lib.hid (fun W (hW : Below w.heap.size w W) => conA_any a0 A0 c0 a1 A1 c1 W (HFQ.out W hW) hQ (HFP.out W hW) hL (HT.out.kept hW))
      have K6 := Lib.hid (fun W (hW : Below w.heap.size w W) => ask_at a0 A0 c0 a1 A1 c1 W (HFQ.out W hW) hQ (HFP.out W hW) hL)
      have hnl : (ntF a1.f).length ≤ 100000000 := Nat.le_trans (List.length_filter_le _ _) (Nat.le_trans hL.n (by decide))
      have hal : (askF a0.f a1.f).length ≤ 100000000 := ask_len hQ.n
      generalize satB a0.m a0.f a1.f a1.c = x1 at *
      generalize ntF a1.f = FN at *
      generalize askF a0.f a1.f = FA at *
      have e1 : (x1 == x1) = true := by simp
      have K7 := Lib.hid (fun W A B c d h h' => r_sameP ⟨304, nmodS, 1, FN, ⟨#[]⟩⟩ A B c d W h h' hnl)
      have K8 := Lib.hid (fun W t A B c d h h' => r_sameQ ⟨⟨#[71, 69, 84]⟩, t, 1, FA, ⟨#[]⟩⟩ A B c d W h h' hal)
      clear HFQ HFP hQ hL hnl hal
      obtain ⟨m, t, v, f, b⟩ := a0
      obtain ⟨pc, pr, pv, g, pb⟩ := a1
      unfold rqC rpC at *
      simp only at *
      have HB : Hid (Below w.heap.size w ((w.alloc (.cells #[.string m, .string t, .int .i64 v, .slice A0 f.length c0, .string b] 24)).alloc (.cells #[.int .i64 pc, .string pr, .int .i64 pv, .slice A1 g.length c1, .string pb] 26))) := ((Below.refl _ _).alloc (Nat.le_refl _) _).alloc (by simp) _
      have ZQ : Hid (((w.alloc (.cells #[.string m, .string t, .int .i64 v, .slice A0 f.length c0, .string b] 24)).alloc (.cells #[.int .i64 pc, .string pr, .int .i64 pv, .slice A1 g.length c1, .string pb] 26)).heap[w.heap.size]? = some (.cells #[.string m, .string t, .int .i64 v, .slice A0 f.length c0, .string b] 24 (0, 0))) := zero_more (heap_alloc_new w _)
      have zt := heap_alloc_new (w.alloc (.cells #[.string m, .string t, .int .i64 v, .slice A0 f.length c0, .string b] 24)) (.cells #[.int .i64 pc, .string pr, .int .i64 pv, .slice A1 g.length c1, .string pb] 26)
      rw [show (w.alloc (.cells #[.string m, .string t, .int .i64 v, .slice A0 f.length c0, .string b] 24)).heap.size = w.heap.size + 1 by simp] at zt
      have ZP := Lib.hid zt
      clear zt
      obtain ⟨q0, q1, q2, q3, q4⟩ := cel5r ZQ.out
      obtain ⟨p0, p1, p2, p3, p4⟩ := cel5r ZP.out
      go_enter Tryz.func3, Tryz.ntmps3
      go_wp2_with fail
      refine (KQ.out _ HB.out).mono ?_
      rintro e v4 ⟨rfl, hb⟩
      clear q0 q1 q2 q3 q4 p0 p1 p2 p3 p4
      replace ZQ := Lib.hid (zero_still hb ZQ.out)
      replace ZP := Lib.hid (zero_still hb ZP.out)
      replace HB := Lib.hid (below_then HB.out hb)
      clear hb
      obtain ⟨q0, q1, q2, q3, q4⟩ := cel5r ZQ.out
      obtain ⟨p0, p1, p2, p3, p4⟩ := cel5r ZP.out
      go_wp2_with fail
      refine (KP.out _ HB.out).mono ?_
      rintro e v5 ⟨rfl, hb⟩
      clear q0 q1 q2 q3 q4 p0 p1 p2 p3 p4
      replace ZQ := Lib.hid (zero_still hb ZQ.out)
      replace ZP := Lib.hid (zero_still hb ZP.out)
      replace HB := Lib.hid (below_then HB.out hb)
      clear hb
      go_wp2_with fail
      replace ZQ : Hid (v5.drew.heap[w.heap.size]? = some (.cells #[.string m, .string t, .int .i64 v, .slice A0 f.length c0, .string b] 24 (0, 0))) := ZQ.out
      replace ZP : Hid (v5.drew.heap[w.heap.size + 1]? = some (.cells #[.int .i64 pc, .string pr, .int .i64 pv, .slice A1 g.length c1, .string pb] 26 (0, 0))) := ZP.out
      replace HB := Lib.hid HB.out.drew
      go_region_held3 (fun W => W.cell? ⟨w.heap.size, 0, none⟩ = some (.string m) ∧ W.cell? ⟨w.heap.size, 1, none⟩ = some (.string t) ∧ W.cell? ⟨w.heap.size, 2, none⟩ = some (.int .i64 v) ∧ W.cell? ⟨w.heap.size, 3, none⟩ = some (.slice A0 f.length c0) ∧ W.cell? ⟨w.heap.size, 4, none⟩ = some (.string b) ∧ W.cell? ⟨w.heap.size + 1, 0, none⟩ = some (.int .i64 pc) ∧ W.cell? ⟨w.heap.size + 1, 1, none⟩ = some (.string pr) ∧ W.cell? ⟨w.heap.size + 1, 2, none⟩ = some (.int .i64 pv) ∧ W.cell? ⟨w.heap.size + 1, 3, none⟩ = some (.slice A1 g.length c1) ∧ W.cell? ⟨w.heap.size + 1, 4, none⟩ = some (.string pb)) (exact ⟨(cel5r ZQ.out).1, (cel5r ZQ.out).2.1, (cel5r ZQ.out).2.2.1, (cel5r ZQ.out).2.2.2.1, (cel5r ZQ.out).2.2.2.2, (cel5r ZP.out).1, (cel5r ZP.out).2.1, (cel5r ZP.out).2.2.1, (cel5r ZP.out).2.2.2.1, (cel5r ZP.out).2.2.2.2⟩) (first
        | (go_at_call 10; refine (K1.out _ HB.out).mono ?_; rintro e w5 ⟨rfl, hb⟩; replace ZQ := Lib.hid (zero_still hb ZQ.out); replace ZP := Lib.hid (zero_still hb ZP.out); (try (replace SA := Lib.hid (SA.out.below hb))); (try (replace SB := Lib.hid (SB.out.below hb))); replace HB := Lib.hid (below_then HB.out hb); clear hb)
        | (go_at_call 11; refine (K2.out _ HB.out).mono ?_; rintro e w5 ⟨rfl, hb⟩; replace ZQ := Lib.hid (zero_still hb ZQ.out); replace ZP := Lib.hid (zero_still hb ZP.out); (try (replace SA := Lib.hid (SA.out.below hb))); (try (replace SB := Lib.hid (SB.out.below hb))); replace HB := Lib.hid (below_then HB.out hb); clear hb)
        | (go_at_call 13; refine (K3.out _ HB.out).mono ?_; rintro e w5 ⟨AxSA, cxSA, rfl, hs, _, hb⟩; replace ZQ := Lib.hid (zero_still hb ZQ.out); replace ZP := Lib.hid (zero_still hb ZP.out); (try (replace SA := Lib.hid (SA.out.below hb))); (try (replace SB := Lib.hid (SB.out.below hb))); replace HB := Lib.hid (below_then HB.out hb); have SA := Lib.hid hs; clear hb hs)
        | (go_at_call 14; refine (K4.out _ HB.out).mono ?_; rintro e w5 ⟨AxSB, cxSB, rfl, hs, _, hb⟩; replace ZQ := Lib.hid (zero_still hb ZQ.out); replace ZP := Lib.hid (zero_still hb ZP.out); (try (replace SA := Lib.hid (SA.out.below hb))); (try (replace SB := Lib.hid (SB.out.below hb))); replace HB := Lib.hid (below_then HB.out hb); have SB := Lib.hid hs; clear hb hs)
        | (go_at_call 12; refine (K7.out _ _ _ _ _ SA.out SB.out).mono ?_; rintro e w5 ⟨rfl, hb⟩; replace ZQ := Lib.hid (zero_still hb ZQ.out); replace ZP := Lib.hid (zero_still hb ZP.out); (try (replace SA := Lib.hid (SA.out.below hb))); (try (replace SB := Lib.hid (SB.out.below hb))); replace HB := Lib.hid (below_then HB.out hb); clear hb)
        | (go_at_call 16; refine (K5.out _ HB.out).mono ?_; rintro e w5 ⟨AxSA, cxSA, rfl, hs, _, hb⟩; replace ZQ := Lib.hid (zero_still hb ZQ.out); replace ZP := Lib.hid (zero_still hb ZP.out); (try (replace SA := Lib.hid (SA.out.below hb))); (try (replace SB := Lib.hid (SB.out.below hb))); replace HB := Lib.hid (below_then HB.out hb); have SA := Lib.hid hs; clear hb hs)
        | (go_at_call 17; refine (K6.out _ HB.out).mono ?_; rintro e w5 ⟨AxSB, cxSB, rfl, hs, _, hb⟩; replace ZQ := Lib.hid (zero_still hb ZQ.out); replace ZP := Lib.hid (zero_still hb ZP.out); (try (replace SA := Lib.hid (SA.out.below hb))); (try (replace SB := Lib.hid (SB.out.below hb))); replace HB := Lib.hid (below_then HB.out hb); have SB := Lib.hid hs; clear hb hs)
        | (go_at_call 15; refine (K8.out _ _ _ _ _ _ SA.out SB.out).mono ?_; rintro e w5 ⟨rfl, hb⟩; replace ZQ := Lib.hid (zero_still hb ZQ.out); replace ZP := Lib.hid (zero_still hb ZP.out); (try (replace SA := Lib.hid (SA.out.below hb))); (try (replace SB := Lib.hid (SB.out.below hb))); replace HB := Lib.hid (below_then HB.out hb); clear hb)
        | (go_at_call 9; refine (CX.out _ HB.out).mono ?_; rintro e w5 ⟨rfl, hb⟩; replace ZQ := Lib.hid (zero_still hb ZQ.out); replace ZP := Lib.hid (zero_still hb ZP.out); (try (replace SA := Lib.hid (SA.out.below hb))); (try (replace SB := Lib.hid (SB.out.below hb))); replace HB := Lib.hid (below_then HB.out hb); clear hb))
      go_wp2_with fail
      go_ret
      exact ⟨rfl, HB.out⟩

theorem door_met (os : Os) (args : Array Value) : laidMetH Tryz.prog Rows.condsTellsRow.laid ((World.laidAll Tryz.prog os Rows.condsTellsRow.laid).forCall (fun _ _ => 0) ⟨#[], args, []⟩).memory := by
  rw [MakeChecks.laidMetH_plain _ _ _ (by kernel_rfl)]
  exact laidMet_laidAll _ (by kernel_rfl) (by kernel_rfl)

set_option maxRecDepth 100000 in
theorem lifted (os : Os) (started : os.Started) (H : Type) (enc : TypeId × Value → H) :
    ReturnsInHanded {} Tryz.checked os 3 .any (fun w args => (Rows.condsTellsSpec.pre enc Tryz.prog Tryz.f3 [] false w args ∧ laidMetH Tryz.prog Rows.condsTellsRow.laid w) ∧ sizedMet enc Tryz.prog Tryz.f3 (OpenSpec.ofChange Rows.condsTellsSpec) false w args) (Rows.condsTellsSpec.post enc Tryz.prog Tryz.f3 false true false false) := by
  refine returns_and_shaped (C := Tryz.checked) (X := fun w _ => laidMetH Tryz.prog Rows.condsTellsRow.laid w) (fun _ _ _ hh h => h.of_heap hh) own started (by kernel_rfl) Tryz.func3
    (ChangeSpec.witness_shaped (enc := enc) (C := Tryz.checked) (os := os) (X := fun w _ => laidMetH Tryz.prog Rows.condsTellsRow.laid w) false (World.laidAll Tryz.prog os Rows.condsTellsRow.laid) #[.agg #[.string ByteArray.empty, .string ByteArray.empty, .int .i64 0, .slice none 0 0, .string ByteArray.empty], .agg #[.int .i64 0, .string ByteArray.empty, .int .i64 0, .slice none 0 0, .string ByteArray.empty]] 8 rfl (World.shaped_of_ZipB (by kernel_rfl) (by kernel_rfl)) (by kernel_rfl) (by kernel_rfl) (by kernel_rfl) (door_met os _)) ?_
  intro W base args ds gs before hval0 hW hL hsh
  have hval : ∀ (j : Nat) t v, Tryz.f3.params[j]? = some t → args[j]? = some v → Value.okWide Tryz.prog W .any base t v := hval0
  have hW' := hW
  obtain ⟨p, q, hA0, hV, rfl, hfz, hnd⟩ := hW
  have hA : DataW.TrodAll enc Tryz.prog W 0 (fun _ => true) true Tryz.f3.params.toList args.toList ds p := hA0
  rw [Tryz.params3] at hA hval
  obtain ⟨v0, vs0, d0, ds0, p0, q0, hargs, rfl, rfl, h0, r0⟩ := trodAll_cons hA
  obtain ⟨v1, vs1, d1, ds1, p1, q1, rfl, rfl, rfl, h1, r1⟩ := trodAll_cons r0
  obtain ⟨rfl, rfl, rfl⟩ := trodAll_nil r1
  obtain rfl : args = #[v0, v1] := by cases args; simp_all
  obtain ⟨rfl, rfl⟩ := trodVars_none hV
  have k0 := h0
  have lt0 : ∀ x ∈ p0, x.block < W.heap.size := by obtain ⟨m, hm⟩ := k0; exact DataW.trod_lt m _ _ _ hm
  obtain ⟨a0, A0, c0, rfl, w0⟩ := WfQ.of_trod Tryz.underlying24 (by kernel_rfl) (by kernel_rfl) Tryz.underlying9 Tryz.underlying9 Tryz.underlying3 Tryz.underlying22 Tryz.underlying9 Tryz.underlying43 (by kernel_rfl) rfl rfl (by kernel_rfl) (by kernel_rfl) Tryz.underlying9 Tryz.underlying9 (hval 0 24 v0 rfl rfl) h0
  have k1 := h1
  have lt1 : ∀ x ∈ p1, x.block < W.heap.size := by obtain ⟨m, hm⟩ := k1; exact DataW.trod_lt m _ _ _ hm
  obtain ⟨a1, A1, c1, rfl, w1⟩ := WfP.of_trod Tryz.underlying26 (by kernel_rfl) (by kernel_rfl) Tryz.underlying3 Tryz.underlying9 Tryz.underlying3 Tryz.underlying22 Tryz.underlying9 Tryz.underlying43 (by kernel_rfl) rfl rfl (by kernel_rfl) (by kernel_rfl) Tryz.underlying9 Tryz.underlying9 (hval 1 26 v1 rfl rfl) h1
  clear hA0 hval0
  refine (walk a0 A0 c0 a1 A1 c1 W w0 w1 hL hsh).mono fun e W' ⟨he, bel⟩ => ?_
  subst he
  exact ⟨_, rfl, _, _, _, [], _, [], hW', trodAll_mk1 (shut_bool Tryz.underlying4 _), (trodAll_cons_mk (Below.trod laidOut (by kernel_rfl) (of_decide_eq_true (by kernel_rfl)) k0 bel lt0) (trodAll_cons_mk (Below.trod laidOut (by kernel_rfl) (of_decide_eq_true (by kernel_rfl)) k1 bel lt1) trodAll_mk0)), rfl, bel.frame _, fun h => by cases h⟩

theorem over : Rows.condsTellsRow.holds Tryz.pinned (OpenSpec.ofChange Rows.condsTellsSpec) :=
  OpenClaim.holds_of_wide 3 Tryz.f3 rfl rfl rfl rfl rfl rfl rfl ⟨rfl, rfl, rfl, rfl, rfl⟩ rfl rfl rfl rfl rfl (by kernel_rfl) Tryz.func3 (by kernel_rfl)
    (of_decide_eq_true (by kernel_rfl)) (by unfold Func.isWrapper; first | (rw [if_pos (by decide +kernel)]; kernel_rfl) | (rw [if_neg (by decide +kernel)]; exact ⟨rfl, rfl⟩))
    (fun os started H enc _ => lifted os started H enc)

theorem said : Rows.CondsTellsSaid :=
  over

theorem plain (f : FuncId) (fn : Func) (hf : Tryz.pinned.checked.prog.funcNamed "depot/depotlaw19.CondsTells" = some f) (hfn : Tryz.pinned.checked.prog.funcs[f]? = some fn) :
    false = Tryz.pinned.checked.prog.looks [] ∧ ∀ (j : Nat) t, fn.params[j]? = some t → Tryz.pinned.checked.prog.wantsStandIn t = false := by
  obtain rfl : f = 3 := Option.some.inj ((show Tryz.prog.funcNamed "depot/depotlaw19.CondsTells" = some 3 by kernel_rfl).symm.trans hf) |>.symm
  obtain rfl : fn = Tryz.f3 := (Option.some.inj (Tryz.func3.symm.trans hfn)).symm
  refine ⟨by kernel_rfl, fun j t ht => ?_⟩
  rw [Tryz.params3] at ht
  · have hm := Array.mem_of_getElem? ht
    simp only [List.mem_toArray, List.mem_cons, List.not_mem_nil, or_false] at hm
    have all : Tryz.pinned.checked.prog.wantsStandIn 24 = false ∧ Tryz.pinned.checked.prog.wantsStandIn 26 = false := ⟨by kernel_rfl, by kernel_rfl⟩
    rcases hm with rfl | rfl
    all_goals first | with_reducible exact all.1 | with_reducible exact all.2

theorem proved : Rows.CondsTellsCardSaid :=
  Claim7.holds_tied_plain_at .later [] _ _ _ _ said (fun _ h => by cases h) (by kernel_rfl) (fun _ h => by cases h) condsTells_row_tie rfl ⟨rfl, rfl⟩ (by kernel_rfl) rfl plain (by kernel_rfl)
#print axioms proved
end Go.Proofs.YtjkfdjolhmgemaaGreatDoor.condsTells
