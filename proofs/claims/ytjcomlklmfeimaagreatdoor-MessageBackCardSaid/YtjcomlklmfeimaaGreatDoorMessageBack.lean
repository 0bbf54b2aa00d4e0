/-
  The law MessageBack (depotlaw12) returns true for every request and every reply, and leaves what it was given as it was. No condition.
-/
import Derived.Test.YtjcomlklmfeimaaGreatDoorRows
import Derived.WalkKit
import Derived.ProofKit
import Derived.OpenShut
import Derived.ShutString
import Derived.ChangeOld
import Derived.Below
import Derived.Test.YtjcomlklmfeimaaGreatDoorMrgA
import Derived.Test.YtjcomlklmfeimaaGreatDoorMrgB
import Derived.Test.YtjcomlklmfeimaaGreatDoorMrgC
import Derived.Test.YtjcomlklmfeimaaGreatDoorMrgD
import Derived.Test.YtjcomlklmfeimaaGreatDoorMrgE
import Derived.Test.YtjcomlklmfeimaaGreatDoorMrgF
import Derived.Test.YtjcomlklmfeimaaGreatDoorMrgG
import Derived.Test.YtjcomlklmfeimaaGreatDoorMrgH
import Derived.Test.YtjcomlklmfeimaaGreatDoorMrgI
import Derived.Test.YtjcomlklmfeimaaGreatDoorMrgJ
import Derived.Test.YtjcomlklmfeimaaGreatDoorMrgK
import Derived.Test.YtjcomlklmfeimaaGreatDoorMrgL
import Derived.Test.YtjcomlklmfeimaaGreatDoorMrgM
import Derived.Test.YtjcomlklmfeimaaGreatDoorMrgN
import Derived.Test.YtjcomlklmfeimaaGreatDoorMrgO
import Derived.Test.YtjcomlklmfeimaaGreatDoorMrgP
import Derived.Test.YtjcomlklmfeimaaGreatDoorMrgQ
import Derived.Test.YtjcomlklmfeimaaGreatDoorMrgR
import Derived.Test.YtjcomlklmfeimaaGreatDoorMrgS
import Derived.Test.YtjcomlklmfeimaaGreatDoorMrgT
import Derived.Test.YtjcomlklmfeimaaGreatDoorMrgU
import Derived.Test.YtjcomlklmfeimaaGreatDoorMrgV
import Derived.Test.YtjcomlklmfeimaaGreatDoorMrgW
import Derived.Test.YtjcomlklmfeimaaGreatDoorMrgX
import Derived.Test.YtjcomlklmfeimaaGreatDoorMrgY
import Derived.Test.YtjcomlklmfeimaaGreatDoorMrgZ
import Derived.Test.YtjcomlklmfeimaaGreatDoorMrgAA
import Derived.Test.YtjcomlklmfeimaaGreatDoorMrgAB
import Derived.Test.YtjcomlklmfeimaaGreatDoorMrgAC
import Derived.Test.YtjcomlklmfeimaaGreatDoorMrgAD
import Derived.Test.YtjcomlklmfeimaaGreatDoorMrgAE
import Derived.Test.YtjcomlklmfeimaaGreatDoorMrgAF
import Derived.Test.YtjcomlklmfeimaaGreatDoorMrgAG
import Derived.Test.YtjcomlklmfeimaaGreatDoorMrgAH
import Derived.Test.YtjcomlklmfeimaaGreatDoorMrgAI
import Derived.Test.YtjcomlklmfeimaaGreatDoorMrgAJ
import Derived.Test.YtjcomlklmfeimaaGreatDoorMrgAK
import Derived.Test.YtjcomlklmfeimaaGreatDoorCards
import Derived.Test.YtjcomlklmfeimaaGreatDoorTie
import Derived.LaidMore
import Derived.Lib.LaidTab
import Derived.Stop.Joined
import Derived.Lay
namespace Go.Proofs.YtjcomlklmfeimaaGreatDoor.messageBack
open Go.ChangeShapes Go.WideShapes Go.ChangeAt Go.RowKit
open Go.ChangeMaps (open_string shut_string)
set_option linter.unusedVariables false

theorem own : ownKnob Tryz.prog.godebug = none := by kernel_rfl
theorem laidOut : laidOutB Tryz.prog = true := by kernel_rfl

set_option maxHeartbeats 8000000 in
set_option maxRecDepth 100000 in
theorem walk (a0 : Rqst) (A0 : Option Addr) (c0 : Nat) (a1 : Rply) (A1 : Option Addr) (c1 : Nat) (w : World) (w0 : WfQ w a0 A0 c0) (w1 : WfP w a1 A1 c1) (hL : laidMetH Tryz.prog Rows.messageBackRow.laid w) (hsh : w.ShapedOpen Tryz.prog) :
    Calls Tryz.prog 6 #[.agg (rqC a0 A0 c0), .agg (rpC a1 A1 c1)] w fun e w' => e = .returned (.bool true) ∧ Below w.heap.size w w' := by
  have HT := Lib.hid (msgTabs hL hsh)
  clear hL hsh
  have cx := fun W (hW : Below w.heap.size w W) => ex12_any W (HT.out.kept hW)
  have CX := Lib.hid cx
  clear cx
  have K1 := Lib.hid (fun W A c (h : SlF W A a0.f.length c a0.f) => r_fewQ a0 A c W h)
  have K2 := Lib.hid (fun W A c (h : SlF W A a1.f.length c a1.f) => r_fewP a1 A c W h)
  have hq := fun h => fwQ_sml (r := a0) h (wf_i64 w0.v)
  have hp := fun h => fwP_sml (r := a1) h (wf_i64 w1.v) (wf_i64 w1.k)
  have K3 := Lib.hid (fun hm W A c (h : SlF W A a0.f.length c a0.f) (hW : Below w.heap.size w W) => pmQ_any a0 A c W h hm (HT.out.kept hW))
  have K5 := Lib.hid (fun hm W A c (h : SlF W A a1.f.length c a1.f) (hW : Below w.heap.size w W) => pmP_any a1 false A c W h hm (HT.out.kept hW))
  have K6 := Lib.hid (fun hm W A c (h : SlF W A a1.f.length c a1.f) (hW : Below w.heap.size w W) => pmP_any a1 true A c W h hm (HT.out.kept hW))
  have K7 := Lib.hid (fun hm W A c (h : SlF W A a0.f.length c a0.f) (hW : Below w.heap.size w W) => ckQ_any a0 A c W h hm (HT.out.kept hW))
  have K9 := Lib.hid (fun hm W A c (h : SlF W A a1.f.length c a1.f) (hW : Below w.heap.size w W) => ckP_any a1 A c W h hm (HT.out.kept hW))
  have KSQ := Lib.hid (fun (hl : a0.f.length ≤ 100000000) W A B c d (h : SlF W A a0.f.length c a0.f) (h' : SlF W B a0.f.length d a0.f) => r_sameQ a0 A B c d W h h' hl)
  have KSP := Lib.hid (fun (hl : a1.f.length ≤ 100000000) W A B c d (h : SlF W A a1.f.length c a1.f) (h' : SlF W B a1.f.length d a1.f) => r_sameP a1 A B c d W h h' hl)
  have KSP0 := Lib.hid (fun (hl : a1.f.length ≤ 100000000) W A B c d (h : SlF W A a1.f.length c a1.f) (h' : SlF W B a1.f.length d a1.f) => r_sameP ⟨a1.c, a1.r, a1.v, a1.f, ⟨#[]⟩⟩ A B c d W h h' hl)
  have CQ : Hid (ckQ a0 = 0 → ∀ W, Below w.heap.size w W → Calls Tryz.prog 9 #[.string (pmQ a0)] W (IsRq W a0 0)) := fun h W hW => by
    have h2 := msgQ_any (pmQ a0) W (by have := (ckQ_ok h).2.2.2.2.1; omega) (HT.out.kept hW)
    rw [(back_q h).1, (back_q h).2] at h2
    exact h2
  have CP1 : Hid (ckP a1 = 0 → ∀ W, Below w.heap.size w W → Calls Tryz.prog 12 #[.string (pmP a1 false), .string ⟨#[71, 69, 84]⟩] W (IsRp W a1 0)) := fun h W hW => by
    have h2 := msgP_any (pmP a1 false) ⟨#[71, 69, 84]⟩ W (by have := (ckP_ok h).2.2.2.2.2.1; omega) (HT.out.kept hW)
    rw [(back_p h false ⟨#[71, 69, 84]⟩ (by decide +kernel)).1, (back_p h false ⟨#[71, 69, 84]⟩ (by decide +kernel)).2] at h2
    exact h2
  have CP2 : Hid (ckP a1 = 0 → ∀ W, Below w.heap.size w W → Calls Tryz.prog 12 #[.string (pmP a1 true), .string ⟨#[72, 69, 65, 68]⟩] W (IsRp W ⟨a1.c, a1.r, a1.v, a1.f, ⟨#[]⟩⟩ 0)) := fun h W hW => by
    have h2 := msgP_any (pmP a1 true) ⟨#[72, 69, 65, 68]⟩ W (by have := (ckP_ok h).2.2.2.2.2.1; have := pmP_le a1 true; omega) (HT.out.kept hW)
    rw [(back_p h true ⟨#[72, 69, 65, 68]⟩ (by decide +kernel)).1, (back_p h true ⟨#[72, 69, 65, 68]⟩ (by decide +kernel)).2] at h2
    exact h2
  have hf0 := w0.f
  have hf1 := w1.f
  have HFW := Lib.hid hf1
  clear w0 w1
  have hq1 := fun h => (hq h).1
  have hq2 := fun h => (hq h).2.2.2.2.1
  have hp1 := fun h => (hp h).1
  have hp2 := fun h => (hp h).2.2.2.1
  clear hq hp
  generalize fwQ a0 = fq at *
  generalize fwP a1 = fp at *
  generalize SmlQ a0 = SQ at *
  generalize SmlP a1 = SP at *
  generalize pmQ a0 = PQ at *
  generalize pmP a1 false = P1 at *
  generalize pmP a1 true = P2 at *
  generalize ckQ a0 = EQ at *
  generalize ckP a1 = EP at *
  unfold IsRq IsRp at *
  unfold rqC rpC at *
  obtain ⟨m, t, v, f, b⟩ := a0
  obtain ⟨sc, sr, sv, sf, sb⟩ := a1
  simp only at *
  have hb0 : Below w.heap.size w (w.alloc (.cells #[.string m, .string t, .int .i64 v, .slice A0 f.length c0, .string b] 25)) := (Below.refl _ _).alloc (Nat.le_refl _) _
  have HB : Hid (Below w.heap.size w ((w.alloc (.cells #[.string m, .string t, .int .i64 v, .slice A0 f.length c0, .string b] 25)).alloc (.cells #[.int .i64 sc, .string sr, .int .i64 sv, .slice A1 sf.length c1, .string sb] 34))) := hb0.alloc hb0.size _
  have Z0 : Hid (((w.alloc (.cells #[.string m, .string t, .int .i64 v, .slice A0 f.length c0, .string b] 25)).alloc (.cells #[.int .i64 sc, .string sr, .int .i64 sv, .slice A1 sf.length c1, .string sb] 34)).heap[w.heap.size]? = some (.cells #[.string m, .string t, .int .i64 v, .slice A0 f.length c0, .string b] 25 (0, 0))) := zero_more (heap_alloc_new w _)
  have z1 := heap_alloc_new (w.alloc (.cells #[.string m, .string t, .int .i64 v, .slice A0 f.length c0, .string b] 25)) (.cells #[.int .i64 sc, .string sr, .int .i64 sv, .slice A1 sf.length c1, .string sb] 34)
  rw [show (w.alloc (.cells #[.string m, .string t, .int .i64 v, .slice A0 f.length c0, .string b] 25)).heap.size = w.heap.size + 1 by simp] at z1
  have Z1 := Lib.hid z1
  have F0 : Hid (SlF ((w.alloc (.cells #[.string m, .string t, .int .i64 v, .slice A0 f.length c0, .string b] 25)).alloc (.cells #[.int .i64 sc, .string sr, .int .i64 sv, .slice A1 sf.length c1, .string sb] 34)) A0 f.length c0 f) := (hf0.alloc _).alloc _
  have F1 : Hid (SlF ((w.alloc (.cells #[.string m, .string t, .int .i64 v, .slice A0 f.length c0, .string b] 25)).alloc (.cells #[.int .i64 sc, .string sr, .int .i64 sv, .slice A1 sf.length c1, .string sb] 34)) A1 sf.length c1 sf) := (hf1.alloc _).alloc _
  clear hb0 z1 hf0 hf1
  cases fq with
  | false =>
    clear hq1 hq2 hp1 hp2 K3 K5 K6 K7 K9 KSQ KSP KSP0 CQ CP1 CP2
    go_enter Tryz.func6, Tryz.ntmps6
    obtain ⟨z0_0, z0_1, z0_2, z0_3, z0_4⟩ := cel5 Z0.out
    obtain ⟨z1_0, z1_1, z1_2, z1_3, z1_4⟩ := cel5 Z1.out
    go_wp2_with fail
    refine (K1.out _ _ _ F0.out).mono ?_
    rintro e v1 ⟨rfl, hb⟩
    clear z0_0 z0_1 z0_2 z0_3 z0_4 z1_0 z1_1 z1_2 z1_3 z1_4
    have Z0 := Lib.hid (zero_still hb Z0.out)
    have Z1 := Lib.hid (zero_still hb Z1.out)
    have F0 := Lib.hid (F0.out.below hb)
    have F1 := Lib.hid (F1.out.below hb)
    have HB := Lib.hid (below_then HB.out hb)
    clear hb
    obtain ⟨z0_0, z0_1, z0_2, z0_3, z0_4⟩ := cel5 Z0.out
    obtain ⟨z1_0, z1_1, z1_2, z1_3, z1_4⟩ := cel5 Z1.out
    go_wp2_with fail
    refine (CX.out _ HB.out).mono ?_
    rintro e v2 ⟨rfl, hb⟩
    clear z0_0 z0_1 z0_2 z0_3 z0_4 z1_0 z1_1 z1_2 z1_3 z1_4
    have Z0 := Lib.hid (zero_still hb Z0.out)
    have Z1 := Lib.hid (zero_still hb Z1.out)
    have F0 := Lib.hid (F0.out.below hb)
    have F1 := Lib.hid (F1.out.below hb)
    have HB := Lib.hid (below_then HB.out hb)
    clear hb
    go_wp2_with fail
    go_ret
    exact ⟨rfl, HB.out⟩
  | true =>
    cases fp with
    | false =>
      clear hq1 hq2 hp1 hp2 K3 K5 K6 K7 K9 KSQ KSP KSP0 CQ CP1 CP2
      go_enter Tryz.func6, Tryz.ntmps6
      obtain ⟨z0_0, z0_1, z0_2, z0_3, z0_4⟩ := cel5 Z0.out
      obtain ⟨z1_0, z1_1, z1_2, z1_3, z1_4⟩ := cel5 Z1.out
      go_wp2_with fail
      refine (K1.out _ _ _ F0.out).mono ?_
      rintro e v1 ⟨rfl, hb⟩
      clear z0_0 z0_1 z0_2 z0_3 z0_4 z1_0 z1_1 z1_2 z1_3 z1_4
      have Z0 := Lib.hid (zero_still hb Z0.out)
      have Z1 := Lib.hid (zero_still hb Z1.out)
      have F0 := Lib.hid (F0.out.below hb)
      have F1 := Lib.hid (F1.out.below hb)
      have HB := Lib.hid (below_then HB.out hb)
      clear hb
      obtain ⟨z0_0, z0_1, z0_2, z0_3, z0_4⟩ := cel5 Z0.out
      obtain ⟨z1_0, z1_1, z1_2, z1_3, z1_4⟩ := cel5 Z1.out
      go_wp2_with fail
      refine (K2.out _ _ _ F1.out).mono ?_
      rintro e v2 ⟨rfl, hb⟩
      clear z0_0 z0_1 z0_2 z0_3 z0_4 z1_0 z1_1 z1_2 z1_3 z1_4
      have Z0 := Lib.hid (zero_still hb Z0.out)
      have Z1 := Lib.hid (zero_still hb Z1.out)
      have F0 := Lib.hid (F0.out.below hb)
      have F1 := Lib.hid (F1.out.below hb)
      have HB := Lib.hid (below_then HB.out hb)
      clear hb
      obtain ⟨z0_0, z0_1, z0_2, z0_3, z0_4⟩ := cel5 Z0.out
      obtain ⟨z1_0, z1_1, z1_2, z1_3, z1_4⟩ := cel5 Z1.out
      go_wp2_with fail
      refine (CX.out _ HB.out).mono ?_
      rintro e v3 ⟨rfl, hb⟩
      clear z0_0 z0_1 z0_2 z0_3 z0_4 z1_0 z1_1 z1_2 z1_3 z1_4
      have Z0 := Lib.hid (zero_still hb Z0.out)
      have Z1 := Lib.hid (zero_still hb Z1.out)
      have F0 := Lib.hid (F0.out.below hb)
      have F1 := Lib.hid (F1.out.below hb)
      have HB := Lib.hid (below_then HB.out hb)
      clear hb
      go_wp2_with fail
      go_ret
      exact ⟨rfl, HB.out⟩
    | true =>
      have K3 := Lib.hid (K3.out (hq1 rfl))
      have K5 := Lib.hid (K5.out (hp1 rfl))
      have K6 := Lib.hid (K6.out (hp1 rfl))
      have K7 := Lib.hid (K7.out (hq1 rfl))
      have K9 := Lib.hid (K9.out (hp1 rfl))
      have KSQ := Lib.hid (KSQ.out (Nat.le_trans (hq2 rfl) (by decide)))
      have KSP := Lib.hid (KSP.out (Nat.le_trans (hp2 rfl) (by decide)))
      have KSP0 := Lib.hid (KSP0.out (Nat.le_trans (hp2 rfl) (by decide)))
      clear hq1 hq2 hp1 hp2
      by_cases hEQ : EQ = 0
      · have DQ := Lib.hid (CQ.out hEQ)
        clear CQ
        subst hEQ
        by_cases hEP : EP = 0
        · have DP1 := Lib.hid (CP1.out hEP)
          have DP2 := Lib.hid (CP2.out hEP)
          clear CP1 CP2
          subst hEP
          go_enter Tryz.func6, Tryz.ntmps6
          obtain ⟨z0_0, z0_1, z0_2, z0_3, z0_4⟩ := cel5 Z0.out
          obtain ⟨z1_0, z1_1, z1_2, z1_3, z1_4⟩ := cel5 Z1.out
          go_wp2_with fail
          refine (K1.out _ _ _ F0.out).mono ?_
          rintro e v1 ⟨rfl, hb⟩
          clear z0_0 z0_1 z0_2 z0_3 z0_4 z1_0 z1_1 z1_2 z1_3 z1_4
          have Z0 := Lib.hid (zero_still hb Z0.out)
          have Z1 := Lib.hid (zero_still hb Z1.out)
          have F0 := Lib.hid (F0.out.below hb)
          have F1 := Lib.hid (F1.out.below hb)
          have HB := Lib.hid (below_then HB.out hb)
          clear hb
          obtain ⟨z0_0, z0_1, z0_2, z0_3, z0_4⟩ := cel5 Z0.out
          obtain ⟨z1_0, z1_1, z1_2, z1_3, z1_4⟩ := cel5 Z1.out
          go_wp2_with fail
          refine (K2.out _ _ _ F1.out).mono ?_
          rintro e v2 ⟨rfl, hb⟩
          clear z0_0 z0_1 z0_2 z0_3 z0_4 z1_0 z1_1 z1_2 z1_3 z1_4
          have Z0 := Lib.hid (zero_still hb Z0.out)
          have Z1 := Lib.hid (zero_still hb Z1.out)
          have F0 := Lib.hid (F0.out.below hb)
          have F1 := Lib.hid (F1.out.below hb)
          have HB := Lib.hid (below_then HB.out hb)
          clear hb
          obtain ⟨z0_0, z0_1, z0_2, z0_3, z0_4⟩ := cel5 Z0.out
          obtain ⟨z1_0, z1_1, z1_2, z1_3, z1_4⟩ := cel5 Z1.out
          go_wp2_with fail
          refine (K7.out _ _ _ F0.out HB.out).mono ?_
          rintro e v3 ⟨rfl, hb⟩
          clear z0_0 z0_1 z0_2 z0_3 z0_4 z1_0 z1_1 z1_2 z1_3 z1_4
          have Z0 := Lib.hid (zero_still hb Z0.out)
          have Z1 := Lib.hid (zero_still hb Z1.out)
          have F0 := Lib.hid (F0.out.below hb)
          have F1 := Lib.hid (F1.out.below hb)
          have HB := Lib.hid (below_then HB.out hb)
          clear hb
          obtain ⟨z0_0, z0_1, z0_2, z0_3, z0_4⟩ := cel5 Z0.out
          obtain ⟨z1_0, z1_1, z1_2, z1_3, z1_4⟩ := cel5 Z1.out
          go_wp2_with fail
          refine (K3.out _ _ _ F0.out HB.out).mono ?_
          rintro e v4 ⟨rfl, hb⟩
          clear z0_0 z0_1 z0_2 z0_3 z0_4 z1_0 z1_1 z1_2 z1_3 z1_4
          have Z0 := Lib.hid (zero_still hb Z0.out)
          have Z1 := Lib.hid (zero_still hb Z1.out)
          have F0 := Lib.hid (F0.out.below hb)
          have F1 := Lib.hid (F1.out.below hb)
          have HB := Lib.hid (below_then HB.out hb)
          clear hb
          go_wp2_with fail
          refine (DQ.out _ HB.out).mono ?_
          rintro e v5 ⟨A2, k2, rfl, hF2, _, hb⟩
          have Z0 := Lib.hid (zero_still hb Z0.out)
          have Z1 := Lib.hid (zero_still hb Z1.out)
          have F0 := Lib.hid (F0.out.below hb)
          have F1 := Lib.hid (F1.out.below hb)
          have HB := Lib.hid (below_then HB.out hb)
          clear hb
          have Z0 := Lib.hid (zero_more (o' := .cells #[.string m, .string t, .int .i64 v, .slice A2 f.length k2, .string b] 25) Z0.out)
          have Z1 := Lib.hid (zero_more (o' := .cells #[.string m, .string t, .int .i64 v, .slice A2 f.length k2, .string b] 25) Z1.out)
          have F0 := Lib.hid (F0.out.alloc (.cells #[.string m, .string t, .int .i64 v, .slice A2 f.length k2, .string b] 25))
          have F1 := Lib.hid (F1.out.alloc (.cells #[.string m, .string t, .int .i64 v, .slice A2 f.length k2, .string b] 25))
          have Z2 := Lib.hid (heap_alloc_new v5 (.cells #[.string m, .string t, .int .i64 v, .slice A2 f.length k2, .string b] 25))
          have F2 := Lib.hid (hF2.alloc (.cells #[.string m, .string t, .int .i64 v, .slice A2 f.length k2, .string b] 25))
          have HB := Lib.hid (HB.out.alloc HB.out.size (.cells #[.string m, .string t, .int .i64 v, .slice A2 f.length k2, .string b] 25))
          clear hF2
          obtain ⟨z0_0, z0_1, z0_2, z0_3, z0_4⟩ := cel5 Z0.out
          obtain ⟨z1_0, z1_1, z1_2, z1_3, z1_4⟩ := cel5 Z1.out
          obtain ⟨z2_0, z2_1, z2_2, z2_3, z2_4⟩ := cel5 Z2.out
          go_wp2_with fail
          refine (KSQ.out _ _ _ _ _ F2.out F0.out).mono ?_
          rintro e v6 ⟨rfl, hb⟩
          clear z0_0 z0_1 z0_2 z0_3 z0_4 z1_0 z1_1 z1_2 z1_3 z1_4 z2_0 z2_1 z2_2 z2_3 z2_4
          have Z0 := Lib.hid (zero_still hb Z0.out)
          have Z1 := Lib.hid (zero_still hb Z1.out)
          have Z2 := Lib.hid (zero_still hb Z2.out)
          have F0 := Lib.hid (F0.out.below hb)
          have F1 := Lib.hid (F1.out.below hb)
          have F2 := Lib.hid (F2.out.below hb)
          have HB := Lib.hid (below_then HB.out hb)
          clear hb
          clear Z2 F2
          obtain ⟨z0_0, z0_1, z0_2, z0_3, z0_4⟩ := cel5 Z0.out
          obtain ⟨z1_0, z1_1, z1_2, z1_3, z1_4⟩ := cel5 Z1.out
          go_wp2_with fail
          refine (K9.out _ _ _ F1.out HB.out).mono ?_
          rintro e v7 ⟨rfl, hb⟩
          clear z0_0 z0_1 z0_2 z0_3 z0_4 z1_0 z1_1 z1_2 z1_3 z1_4
          have Z0 := Lib.hid (zero_still hb Z0.out)
          have Z1 := Lib.hid (zero_still hb Z1.out)
          have F0 := Lib.hid (F0.out.below hb)
          have F1 := Lib.hid (F1.out.below hb)
          have HB := Lib.hid (below_then HB.out hb)
          clear hb
          obtain ⟨z0_0, z0_1, z0_2, z0_3, z0_4⟩ := cel5 Z0.out
          obtain ⟨z1_0, z1_1, z1_2, z1_3, z1_4⟩ := cel5 Z1.out
          go_wp2_with fail
          refine (K5.out _ _ _ F1.out HB.out).mono ?_
          rintro e v8 ⟨rfl, hb⟩
          clear z0_0 z0_1 z0_2 z0_3 z0_4 z1_0 z1_1 z1_2 z1_3 z1_4
          have Z0 := Lib.hid (zero_still hb Z0.out)
          have Z1 := Lib.hid (zero_still hb Z1.out)
          have F0 := Lib.hid (F0.out.below hb)
          have F1 := Lib.hid (F1.out.below hb)
          have HB := Lib.hid (below_then HB.out hb)
          clear hb
          go_wp2_with fail
          refine (DP1.out _ HB.out).mono ?_
          rintro e v9 ⟨A3, k3, rfl, hF3, _, hb⟩
          have Z0 := Lib.hid (zero_still hb Z0.out)
          have Z1 := Lib.hid (zero_still hb Z1.out)
          have F0 := Lib.hid (F0.out.below hb)
          have F1 := Lib.hid (F1.out.below hb)
          have HB := Lib.hid (below_then HB.out hb)
          clear hb
          have Z0 := Lib.hid (zero_more (o' := .cells #[.int .i64 sc, .string sr, .int .i64 sv, .slice A3 sf.length k3, .string sb] 34) Z0.out)
          have Z1 := Lib.hid (zero_more (o' := .cells #[.int .i64 sc, .string sr, .int .i64 sv, .slice A3 sf.length k3, .string sb] 34) Z1.out)
          have F0 := Lib.hid (F0.out.alloc (.cells #[.int .i64 sc, .string sr, .int .i64 sv, .slice A3 sf.length k3, .string sb] 34))
          have F1 := Lib.hid (F1.out.alloc (.cells #[.int .i64 sc, .string sr, .int .i64 sv, .slice A3 sf.length k3, .string sb] 34))
          have Z3 := Lib.hid (heap_alloc_new v9 (.cells #[.int .i64 sc, .string sr, .int .i64 sv, .slice A3 sf.length k3, .string sb] 34))
          have F3 := Lib.hid (hF3.alloc (.cells #[.int .i64 sc, .string sr, .int .i64 sv, .slice A3 sf.length k3, .string sb] 34))
          have HB := Lib.hid (HB.out.alloc HB.out.size (.cells #[.int .i64 sc, .string sr, .int .i64 sv, .slice A3 sf.length k3, .string sb] 34))
          clear hF3
          obtain ⟨z0_0, z0_1, z0_2, z0_3, z0_4⟩ := cel5 Z0.out
          obtain ⟨z1_0, z1_1, z1_2, z1_3, z1_4⟩ := cel5 Z1.out
          obtain ⟨z3_0, z3_1, z3_2, z3_3, z3_4⟩ := cel5 Z3.out
          go_wp2_with fail
          refine (K6.out _ _ _ F1.out HB.out).mono ?_
          rintro e v10 ⟨rfl, hb⟩
          clear z0_0 z0_1 z0_2 z0_3 z0_4 z1_0 z1_1 z1_2 z1_3 z1_4 z3_0 z3_1 z3_2 z3_3 z3_4
          have Z0 := Lib.hid (zero_still hb Z0.out)
          have Z1 := Lib.hid (zero_still hb Z1.out)
          have Z3 := Lib.hid (zero_still hb Z3.out)
          have F0 := Lib.hid (F0.out.below hb)
          have F1 := Lib.hid (F1.out.below hb)
          have F3 := Lib.hid (F3.out.below hb)
          have HB := Lib.hid (below_then HB.out hb)
          clear hb
          have HLT : Hid (w.heap.size + 1 < v10.heap.size) := (Array.getElem?_eq_some_iff.1 Z1.out).1
          go_wp2_with fail
          refine (DP2.out _ HB.out).mono ?_
          rintro e v11 ⟨A4, k4, rfl, hF4, hfr, hb⟩
          have Z0 := Lib.hid (zero_still hb Z0.out)
          have Z1 := Lib.hid (zero_still hb Z1.out)
          have Z3 := Lib.hid (zero_still hb Z3.out)
          have F0 := Lib.hid (F0.out.below hb)
          have F1 := Lib.hid (F1.out.below hb)
          have F3 := Lib.hid (F3.out.below hb)
          have HB := Lib.hid (below_then HB.out hb)
          clear hb
          have HL4 : Hid (v11.heap.size ≠ w.heap.size + 1) := Nat.ne_of_gt (Array.getElem?_eq_some_iff.1 Z1.out).1
          have HFR : Hid (∀ ad, A4 = some ad → ad.block ≠ w.heap.size + 1) := fun ad ha => Nat.ne_of_gt (Nat.lt_of_lt_of_le HLT.out (hfr ad ha))
          clear hfr
          have Z0 := Lib.hid (zero_more (o' := .cells #[.int .i64 sc, .string sr, .int .i64 sv, .slice A4 sf.length k4, .string ⟨#[]⟩] 34) Z0.out)
          have Z1 := Lib.hid (zero_more (o' := .cells #[.int .i64 sc, .string sr, .int .i64 sv, .slice A4 sf.length k4, .string ⟨#[]⟩] 34) Z1.out)
          have Z3 := Lib.hid (zero_more (o' := .cells #[.int .i64 sc, .string sr, .int .i64 sv, .slice A4 sf.length k4, .string ⟨#[]⟩] 34) Z3.out)
          have F0 := Lib.hid (F0.out.alloc (.cells #[.int .i64 sc, .string sr, .int .i64 sv, .slice A4 sf.length k4, .string ⟨#[]⟩] 34))
          have F1 := Lib.hid (F1.out.alloc (.cells #[.int .i64 sc, .string sr, .int .i64 sv, .slice A4 sf.length k4, .string ⟨#[]⟩] 34))
          have F3 := Lib.hid (F3.out.alloc (.cells #[.int .i64 sc, .string sr, .int .i64 sv, .slice A4 sf.length k4, .string ⟨#[]⟩] 34))
          have Z4 := Lib.hid (heap_alloc_new v11 (.cells #[.int .i64 sc, .string sr, .int .i64 sv, .slice A4 sf.length k4, .string ⟨#[]⟩] 34))
          have F4 := Lib.hid (hF4.alloc (.cells #[.int .i64 sc, .string sr, .int .i64 sv, .slice A4 sf.length k4, .string ⟨#[]⟩] 34))
          have HB := Lib.hid (HB.out.alloc HB.out.size (.cells #[.int .i64 sc, .string sr, .int .i64 sv, .slice A4 sf.length k4, .string ⟨#[]⟩] 34))
          clear hF4
          obtain ⟨z0_0, z0_1, z0_2, z0_3, z0_4⟩ := cel5 Z0.out
          obtain ⟨z1_0, z1_1, z1_2, z1_3, z1_4⟩ := cel5 Z1.out
          obtain ⟨z3_0, z3_1, z3_2, z3_3, z3_4⟩ := cel5 Z3.out
          obtain ⟨z4_0, z4_1, z4_2, z4_3, z4_4⟩ := cel5 Z4.out
          go_wp2_with fail
          refine (KSP.out _ _ _ _ _ F3.out F1.out).mono ?_
          rintro e v12 ⟨rfl, hb⟩
          clear z0_0 z0_1 z0_2 z0_3 z0_4 z1_0 z1_1 z1_2 z1_3 z1_4 z3_0 z3_1 z3_2 z3_3 z3_4 z4_0 z4_1 z4_2 z4_3 z4_4
          have Z0 := Lib.hid (zero_still hb Z0.out)
          have Z1 := Lib.hid (zero_still hb Z1.out)
          have Z3 := Lib.hid (zero_still hb Z3.out)
          have Z4 := Lib.hid (zero_still hb Z4.out)
          have F0 := Lib.hid (F0.out.below hb)
          have F1 := Lib.hid (F1.out.below hb)
          have F3 := Lib.hid (F3.out.below hb)
          have F4 := Lib.hid (F4.out.below hb)
          have HB := Lib.hid (below_then HB.out hb)
          clear hb
          have fz := (rp_cells Z1.out).2
          have z1_4 := (rp_cells Z1.out).1
          have Z1 := Lib.hid (rp_set (b := .string ⟨#[]⟩) Z1.out)
          have Z4 := Lib.hid (rp_set_other (b := .string ⟨#[]⟩) HL4.out Z4.out)
          have HB := Lib.hid (HB.out.setCell (p := ⟨w.heap.size + 1, 4, none⟩) (Nat.le_succ _) (.string ⟨#[]⟩))
          have F4 := Lib.hid (F4.out.setOther HFR.out 4 (.string ⟨#[]⟩))
          have F1 := Lib.hid (HFW.out.below HB.out)
          obtain ⟨a_0, a_1, a_2, a_3, a_4⟩ := cel5 Z1.out
          obtain ⟨b_0, b_1, b_2, b_3, b_4⟩ := cel5 Z4.out
          go_wp2_with fail
          refine (KSP0.out _ _ _ _ _ F4.out F1.out).mono ?_
          rintro e v13 ⟨rfl, hb⟩
          have HB := Lib.hid (below_then HB.out hb)
          clear hb
          go_wp2_with fail
          refine (CX.out _ HB.out).mono ?_
          rintro e v14 ⟨rfl, hb⟩
          have HB := Lib.hid (below_then HB.out hb)
          clear hb
          go_wp2_with fail
          go_ret
          exact ⟨rfl, HB.out⟩
        · have hEP1 : (EP == 0) = false := by simpa using hEP
          clear CP1 CP2
          go_enter Tryz.func6, Tryz.ntmps6
          obtain ⟨z0_0, z0_1, z0_2, z0_3, z0_4⟩ := cel5 Z0.out
          obtain ⟨z1_0, z1_1, z1_2, z1_3, z1_4⟩ := cel5 Z1.out
          go_wp2_with fail
          refine (K1.out _ _ _ F0.out).mono ?_
          rintro e v1 ⟨rfl, hb⟩
          clear z0_0 z0_1 z0_2 z0_3 z0_4 z1_0 z1_1 z1_2 z1_3 z1_4
          have Z0 := Lib.hid (zero_still hb Z0.out)
          have Z1 := Lib.hid (zero_still hb Z1.out)
          have F0 := Lib.hid (F0.out.below hb)
          have F1 := Lib.hid (F1.out.below hb)
          have HB := Lib.hid (below_then HB.out hb)
          clear hb
          obtain ⟨z0_0, z0_1, z0_2, z0_3, z0_4⟩ := cel5 Z0.out
          obtain ⟨z1_0, z1_1, z1_2, z1_3, z1_4⟩ := cel5 Z1.out
          go_wp2_with fail
          refine (K2.out _ _ _ F1.out).mono ?_
          rintro e v2 ⟨rfl, hb⟩
          clear z0_0 z0_1 z0_2 z0_3 z0_4 z1_0 z1_1 z1_2 z1_3 z1_4
          have Z0 := Lib.hid (zero_still hb Z0.out)
          have Z1 := Lib.hid (zero_still hb Z1.out)
          have F0 := Lib.hid (F0.out.below hb)
          have F1 := Lib.hid (F1.out.below hb)
          have HB := Lib.hid (below_then HB.out hb)
          clear hb
          obtain ⟨z0_0, z0_1, z0_2, z0_3, z0_4⟩ := cel5 Z0.out
          obtain ⟨z1_0, z1_1, z1_2, z1_3, z1_4⟩ := cel5 Z1.out
          go_wp2_with fail
          refine (K7.out _ _ _ F0.out HB.out).mono ?_
          rintro e v3 ⟨rfl, hb⟩
          clear z0_0 z0_1 z0_2 z0_3 z0_4 z1_0 z1_1 z1_2 z1_3 z1_4
          have Z0 := Lib.hid (zero_still hb Z0.out)
          have Z1 := Lib.hid (zero_still hb Z1.out)
          have F0 := Lib.hid (F0.out.below hb)
          have F1 := Lib.hid (F1.out.below hb)
          have HB := Lib.hid (below_then HB.out hb)
          clear hb
          obtain ⟨z0_0, z0_1, z0_2, z0_3, z0_4⟩ := cel5 Z0.out
          obtain ⟨z1_0, z1_1, z1_2, z1_3, z1_4⟩ := cel5 Z1.out
          go_wp2_with fail
          refine (K3.out _ _ _ F0.out HB.out).mono ?_
          rintro e v4 ⟨rfl, hb⟩
          clear z0_0 z0_1 z0_2 z0_3 z0_4 z1_0 z1_1 z1_2 z1_3 z1_4
          have Z0 := Lib.hid (zero_still hb Z0.out)
          have Z1 := Lib.hid (zero_still hb Z1.out)
          have F0 := Lib.hid (F0.out.below hb)
          have F1 := Lib.hid (F1.out.below hb)
          have HB := Lib.hid (below_then HB.out hb)
          clear hb
          go_wp2_with fail
          refine (DQ.out _ HB.out).mono ?_
          rintro e v5 ⟨A2, k2, rfl, hF2, _, hb⟩
          have Z0 := Lib.hid (zero_still hb Z0.out)
          have Z1 := Lib.hid (zero_still hb Z1.out)
          have F0 := Lib.hid (F0.out.below hb)
          have F1 := Lib.hid (F1.out.below hb)
          have HB := Lib.hid (below_then HB.out hb)
          clear hb
          have Z0 := Lib.hid (zero_more (o' := .cells #[.string m, .string t, .int .i64 v, .slice A2 f.length k2, .string b] 25) Z0.out)
          have Z1 := Lib.hid (zero_more (o' := .cells #[.string m, .string t, .int .i64 v, .slice A2 f.length k2, .string b] 25) Z1.out)
          have F0 := Lib.hid (F0.out.alloc (.cells #[.string m, .string t, .int .i64 v, .slice A2 f.length k2, .string b] 25))
          have F1 := Lib.hid (F1.out.alloc (.cells #[.string m, .string t, .int .i64 v, .slice A2 f.length k2, .string b] 25))
          have Z2 := Lib.hid (heap_alloc_new v5 (.cells #[.string m, .string t, .int .i64 v, .slice A2 f.length k2, .string b] 25))
          have F2 := Lib.hid (hF2.alloc (.cells #[.string m, .string t, .int .i64 v, .slice A2 f.length k2, .string b] 25))
          have HB := Lib.hid (HB.out.alloc HB.out.size (.cells #[.string m, .string t, .int .i64 v, .slice A2 f.length k2, .string b] 25))
          clear hF2
          obtain ⟨z0_0, z0_1, z0_2, z0_3, z0_4⟩ := cel5 Z0.out
          obtain ⟨z1_0, z1_1, z1_2, z1_3, z1_4⟩ := cel5 Z1.out
          obtain ⟨z2_0, z2_1, z2_2, z2_3, z2_4⟩ := cel5 Z2.out
          go_wp2_with fail
          refine (KSQ.out _ _ _ _ _ F2.out F0.out).mono ?_
          rintro e v6 ⟨rfl, hb⟩
          clear z0_0 z0_1 z0_2 z0_3 z0_4 z1_0 z1_1 z1_2 z1_3 z1_4 z2_0 z2_1 z2_2 z2_3 z2_4
          have Z0 := Lib.hid (zero_still hb Z0.out)
          have Z1 := Lib.hid (zero_still hb Z1.out)
          have Z2 := Lib.hid (zero_still hb Z2.out)
          have F0 := Lib.hid (F0.out.below hb)
          have F1 := Lib.hid (F1.out.below hb)
          have F2 := Lib.hid (F2.out.below hb)
          have HB := Lib.hid (below_then HB.out hb)
          clear hb
          clear Z2 F2
          obtain ⟨z0_0, z0_1, z0_2, z0_3, z0_4⟩ := cel5 Z0.out
          obtain ⟨z1_0, z1_1, z1_2, z1_3, z1_4⟩ := cel5 Z1.out
          go_wp2_with fail
          refine (K9.out _ _ _ F1.out HB.out).mono ?_
          rintro e v7 ⟨rfl, hb⟩
          clear z0_0 z0_1 z0_2 z0_3 z0_4 z1_0 z1_1 z1_2 z1_3 z1_4
          have Z0 := Lib.hid (zero_still hb Z0.out)
          have Z1 := Lib.hid (zero_still hb Z1.out)
          have F0 := Lib.hid (F0.out.below hb)
          have F1 := Lib.hid (F1.out.below hb)
          have HB := Lib.hid (below_then HB.out hb)
          clear hb
          obtain ⟨z0_0, z0_1, z0_2, z0_3, z0_4⟩ := cel5 Z0.out
          obtain ⟨z1_0, z1_1, z1_2, z1_3, z1_4⟩ := cel5 Z1.out
          go_wp2_with fail
          refine (CX.out _ HB.out).mono ?_
          rintro e v8 ⟨rfl, hb⟩
          clear z0_0 z0_1 z0_2 z0_3 z0_4 z1_0 z1_1 z1_2 z1_3 z1_4
          have Z0 := Lib.hid (zero_still hb Z0.out)
          have Z1 := Lib.hid (zero_still hb Z1.out)
          have F0 := Lib.hid (F0.out.below hb)
          have F1 := Lib.hid (F1.out.below hb)
          have HB := Lib.hid (below_then HB.out hb)
          clear hb
          go_wp2_with fail
          go_ret
          exact ⟨rfl, HB.out⟩
      · have hEQ1 : (EQ == 0) = false := by simpa using hEQ
        clear CQ
        by_cases hEP : EP = 0
        · have DP1 := Lib.hid (CP1.out hEP)
          have DP2 := Lib.hid (CP2.out hEP)
          clear CP1 CP2
          subst hEP
          go_enter Tryz.func6, Tryz.ntmps6
          obtain ⟨z0_0, z0_1, z0_2, z0_3, z0_4⟩ := cel5 Z0.out
          obtain ⟨z1_0, z1_1, z1_2, z1_3, z1_4⟩ := cel5 Z1.out
          go_wp2_with fail
          refine (K1.out _ _ _ F0.out).mono ?_
          rintro e v1 ⟨rfl, hb⟩
          clear z0_0 z0_1 z0_2 z0_3 z0_4 z1_0 z1_1 z1_2 z1_3 z1_4
          have Z0 := Lib.hid (zero_still hb Z0.out)
          have Z1 := Lib.hid (zero_still hb Z1.out)
          have F0 := Lib.hid (F0.out.below hb)
          have F1 := Lib.hid (F1.out.below hb)
          have HB := Lib.hid (below_then HB.out hb)
          clear hb
          obtain ⟨z0_0, z0_1, z0_2, z0_3, z0_4⟩ := cel5 Z0.out
          obtain ⟨z1_0, z1_1, z1_2, z1_3, z1_4⟩ := cel5 Z1.out
          go_wp2_with fail
          refine (K2.out _ _ _ F1.out).mono ?_
          rintro e v2 ⟨rfl, hb⟩
          clear z0_0 z0_1 z0_2 z0_3 z0_4 z1_0 z1_1 z1_2 z1_3 z1_4
          have Z0 := Lib.hid (zero_still hb Z0.out)
          have Z1 := Lib.hid (zero_still hb Z1.out)
          have F0 := Lib.hid (F0.out.below hb)
          have F1 := Lib.hid (F1.out.below hb)
          have HB := Lib.hid (below_then HB.out hb)
          clear hb
          obtain ⟨z0_0, z0_1, z0_2, z0_3, z0_4⟩ := cel5 Z0.out
          obtain ⟨z1_0, z1_1, z1_2, z1_3, z1_4⟩ := cel5 Z1.out
          go_wp2_with fail
          refine (K7.out _ _ _ F0.out HB.out).mono ?_
          rintro e v3 ⟨rfl, hb⟩
          clear z0_0 z0_1 z0_2 z0_3 z0_4 z1_0 z1_1 z1_2 z1_3 z1_4
          have Z0 := Lib.hid (zero_still hb Z0.out)
          have Z1 := Lib.hid (zero_still hb Z1.out)
          have F0 := Lib.hid (F0.out.below hb)
          have F1 := Lib.hid (F1.out.below hb)
          have HB := Lib.hid (below_then HB.out hb)
          clear hb
          obtain ⟨z0_0, z0_1, z0_2, z0_3, z0_4⟩ := cel5 Z0.out
          obtain ⟨z1_0, z1_1, z1_2, z1_3, z1_4⟩ := cel5 Z1.out
          go_wp2_with fail
          refine (K9.out _ _ _ F1.out HB.out).mono ?_
          rintro e v4 ⟨rfl, hb⟩
          clear z0_0 z0_1 z0_2 z0_3 z0_4 z1_0 z1_1 z1_2 z1_3 z1_4
          have Z0 := Lib.hid (zero_still hb Z0.out)
          have Z1 := Lib.hid (zero_still hb Z1.out)
          have F0 := Lib.hid (F0.out.below hb)
          have F1 := Lib.hid (F1.out.below hb)
          have HB := Lib.hid (below_then HB.out hb)
          clear hb
          obtain ⟨z0_0, z0_1, z0_2, z0_3, z0_4⟩ := cel5 Z0.out
          obtain ⟨z1_0, z1_1, z1_2, z1_3, z1_4⟩ := cel5 Z1.out
          go_wp2_with fail
          refine (K5.out _ _ _ F1.out HB.out).mono ?_
          rintro e v5 ⟨rfl, hb⟩
          clear z0_0 z0_1 z0_2 z0_3 z0_4 z1_0 z1_1 z1_2 z1_3 z1_4
          have Z0 := Lib.hid (zero_still hb Z0.out)
          have Z1 := Lib.hid (zero_still hb Z1.out)
          have F0 := Lib.hid (F0.out.below hb)
          have F1 := Lib.hid (F1.out.below hb)
          have HB := Lib.hid (below_then HB.out hb)
          clear hb
          go_wp2_with fail
          refine (DP1.out _ HB.out).mono ?_
          rintro e v6 ⟨A3, k3, rfl, hF3, _, hb⟩
          have Z0 := Lib.hid (zero_still hb Z0.out)
          have Z1 := Lib.hid (zero_still hb Z1.out)
          have F0 := Lib.hid (F0.out.below hb)
          have F1 := Lib.hid (F1.out.below hb)
          have HB := Lib.hid (below_then HB.out hb)
          clear hb
          have Z0 := Lib.hid (zero_more (o' := .cells #[.int .i64 sc, .string sr, .int .i64 sv, .slice A3 sf.length k3, .string sb] 34) Z0.out)
          have Z1 := Lib.hid (zero_more (o' := .cells #[.int .i64 sc, .string sr, .int .i64 sv, .slice A3 sf.length k3, .string sb] 34) Z1.out)
          have F0 := Lib.hid (F0.out.alloc (.cells #[.int .i64 sc, .string sr, .int .i64 sv, .slice A3 sf.length k3, .string sb] 34))
          have F1 := Lib.hid (F1.out.alloc (.cells #[.int .i64 sc, .string sr, .int .i64 sv, .slice A3 sf.length k3, .string sb] 34))
          have Z3 := Lib.hid (heap_alloc_new v6 (.cells #[.int .i64 sc, .string sr, .int .i64 sv, .slice A3 sf.length k3, .string sb] 34))
          have F3 := Lib.hid (hF3.alloc (.cells #[.int .i64 sc, .string sr, .int .i64 sv, .slice A3 sf.length k3, .string sb] 34))
          have HB := Lib.hid (HB.out.alloc HB.out.size (.cells #[.int .i64 sc, .string sr, .int .i64 sv, .slice A3 sf.length k3, .string sb] 34))
          clear hF3
          obtain ⟨z0_0, z0_1, z0_2, z0_3, z0_4⟩ := cel5 Z0.out
          obtain ⟨z1_0, z1_1, z1_2, z1_3, z1_4⟩ := cel5 Z1.out
          obtain ⟨z3_0, z3_1, z3_2, z3_3, z3_4⟩ := cel5 Z3.out
          go_wp2_with fail
          refine (K6.out _ _ _ F1.out HB.out).mono ?_
          rintro e v7 ⟨rfl, hb⟩
          clear z0_0 z0_1 z0_2 z0_3 z0_4 z1_0 z1_1 z1_2 z1_3 z1_4 z3_0 z3_1 z3_2 z3_3 z3_4
          have Z0 := Lib.hid (zero_still hb Z0.out)
          have Z1 := Lib.hid (zero_still hb Z1.out)
          have Z3 := Lib.hid (zero_still hb Z3.out)
          have F0 := Lib.hid (F0.out.below hb)
          have F1 := Lib.hid (F1.out.below hb)
          have F3 := Lib.hid (F3.out.below hb)
          have HB := Lib.hid (below_then HB.out hb)
          clear hb
          have HLT : Hid (w.heap.size + 1 < v7.heap.size) := (Array.getElem?_eq_some_iff.1 Z1.out).1
          go_wp2_with fail
          refine (DP2.out _ HB.out).mono ?_
          rintro e v8 ⟨A4, k4, rfl, hF4, hfr, hb⟩
          have Z0 := Lib.hid (zero_still hb Z0.out)
          have Z1 := Lib.hid (zero_still hb Z1.out)
          have Z3 := Lib.hid (zero_still hb Z3.out)
          have F0 := Lib.hid (F0.out.below hb)
          have F1 := Lib.hid (F1.out.below hb)
          have F3 := Lib.hid (F3.out.below hb)
          have HB := Lib.hid (below_then HB.out hb)
          clear hb
          have HL4 : Hid (v8.heap.size ≠ w.heap.size + 1) := Nat.ne_of_gt (Array.getElem?_eq_some_iff.1 Z1.out).1
          have HFR : Hid (∀ ad, A4 = some ad → ad.block ≠ w.heap.size + 1) := fun ad ha => Nat.ne_of_gt (Nat.lt_of_lt_of_le HLT.out (hfr ad ha))
          clear hfr
          have Z0 := Lib.hid (zero_more (o' := .cells #[.int .i64 sc, .string sr, .int .i64 sv, .slice A4 sf.length k4, .string ⟨#[]⟩] 34) Z0.out)
          have Z1 := Lib.hid (zero_more (o' := .cells #[.int .i64 sc, .string sr, .int .i64 sv, .slice A4 sf.length k4, .string ⟨#[]⟩] 34) Z1.out)
          have Z3 := Lib.hid (zero_more (o' := .cells #[.int .i64 sc, .string sr, .int .i64 sv, .slice A4 sf.length k4, .string ⟨#[]⟩] 34) Z3.out)
          have F0 := Lib.hid (F0.out.alloc (.cells #[.int .i64 sc, .string sr, .int .i64 sv, .slice A4 sf.length k4, .string ⟨#[]⟩] 34))
          have F1 := Lib.hid (F1.out.alloc (.cells #[.int .i64 sc, .string sr, .int .i64 sv, .slice A4 sf.length k4, .string ⟨#[]⟩] 34))
          have F3 := Lib.hid (F3.out.alloc (.cells #[.int .i64 sc, .string sr, .int .i64 sv, .slice A4 sf.length k4, .string ⟨#[]⟩] 34))
          have Z4 := Lib.hid (heap_alloc_new v8 (.cells #[.int .i64 sc, .string sr, .int .i64 sv, .slice A4 sf.length k4, .string ⟨#[]⟩] 34))
          have F4 := Lib.hid (hF4.alloc (.cells #[.int .i64 sc, .string sr, .int .i64 sv, .slice A4 sf.length k4, .string ⟨#[]⟩] 34))
          have HB := Lib.hid (HB.out.alloc HB.out.size (.cells #[.int .i64 sc, .string sr, .int .i64 sv, .slice A4 sf.length k4, .string ⟨#[]⟩] 34))
          clear hF4
          obtain ⟨z0_0, z0_1, z0_2, z0_3, z0_4⟩ := cel5 Z0.out
          obtain ⟨z1_0, z1_1, z1_2, z1_3, z1_4⟩ := cel5 Z1.out
          obtain ⟨z3_0, z3_1, z3_2, z3_3, z3_4⟩ := cel5 Z3.out
          obtain ⟨z4_0, z4_1, z4_2, z4_3, z4_4⟩ := cel5 Z4.out
          go_wp2_with fail
          refine (KSP.out _ _ _ _ _ F3.out F1.out).mono ?_
          rintro e v9 ⟨rfl, hb⟩
          clear z0_0 z0_1 z0_2 z0_3 z0_4 z1_0 z1_1 z1_2 z1_3 z1_4 z3_0 z3_1 z3_2 z3_3 z3_4 z4_0 z4_1 z4_2 z4_3 z4_4
          have Z0 := Lib.hid (zero_still hb Z0.out)
          have Z1 := Lib.hid (zero_still hb Z1.out)
          have Z3 := Lib.hid (zero_still hb Z3.out)
          have Z4 := Lib.hid (zero_still hb Z4.out)
          have F0 := Lib.hid (F0.out.below hb)
          have F1 := Lib.hid (F1.out.below hb)
          have F3 := Lib.hid (F3.out.below hb)
          have F4 := Lib.hid (F4.out.below hb)
          have HB := Lib.hid (below_then HB.out hb)
          clear hb
          have fz := (rp_cells Z1.out).2
          have z1_4 := (rp_cells Z1.out).1
          have Z1 := Lib.hid (rp_set (b := .string ⟨#[]⟩) Z1.out)
          have Z4 := Lib.hid (rp_set_other (b := .string ⟨#[]⟩) HL4.out Z4.out)
          have HB := Lib.hid (HB.out.setCell (p := ⟨w.heap.size + 1, 4, none⟩) (Nat.le_succ _) (.string ⟨#[]⟩))
          have F4 := Lib.hid (F4.out.setOther HFR.out 4 (.string ⟨#[]⟩))
          have F1 := Lib.hid (HFW.out.below HB.out)
          obtain ⟨a_0, a_1, a_2, a_3, a_4⟩ := cel5 Z1.out
          obtain ⟨b_0, b_1, b_2, b_3, b_4⟩ := cel5 Z4.out
          go_wp2_with fail
          refine (KSP0.out _ _ _ _ _ F4.out F1.out).mono ?_
          rintro e v10 ⟨rfl, hb⟩
          have HB := Lib.hid (below_then HB.out hb)
          clear hb
          go_wp2_with fail
          refine (CX.out _ HB.out).mono ?_
          rintro e v11 ⟨rfl, hb⟩
          have HB := Lib.hid (below_then HB.out hb)
          clear hb
          go_wp2_with fail
          go_ret
          exact ⟨rfl, HB.out⟩
        · have hEP1 : (EP == 0) = false := by simpa using hEP
          clear CP1 CP2
          go_enter Tryz.func6, Tryz.ntmps6
          obtain ⟨z0_0, z0_1, z0_2, z0_3, z0_4⟩ := cel5 Z0.out
          obtain ⟨z1_0, z1_1, z1_2, z1_3, z1_4⟩ := cel5 Z1.out
          go_wp2_with fail
          refine (K1.out _ _ _ F0.out).mono ?_
          rintro e v1 ⟨rfl, hb⟩
          clear z0_0 z0_1 z0_2 z0_3 z0_4 z1_0 z1_1 z1_2 z1_3 z1_4
          have Z0 := Lib.hid (zero_still hb Z0.out)
          have Z1 := Lib.hid (zero_still hb Z1.out)
          have F0 := Lib.hid (F0.out.below hb)
          have F1 := Lib.hid (F1.out.below hb)
          have HB := Lib.hid (below_then HB.out hb)
          clear hb
          obtain ⟨z0_0, z0_1, z0_2, z0_3, z0_4⟩ := cel5 Z0.out
          obtain ⟨z1_0, z1_1, z1_2, z1_3, z1_4⟩ := cel5 Z1.out
          go_wp2_with fail
          refine (K2.out _ _ _ F1.out).mono ?_
          rintro e v2 ⟨rfl, hb⟩
          clear z0_0 z0_1 z0_2 z0_3 z0_4 z1_0 z1_1 z1_2 z1_3 z1_4
          have Z0 := Lib.hid (zero_still hb Z0.out)
          have Z1 := Lib.hid (zero_still hb Z1.out)
          have F0 := Lib.hid (F0.out.below hb)
          have F1 := Lib.hid (F1.out.below hb)
          have HB := Lib.hid (below_then HB.out hb)
          clear hb
          obtain ⟨z0_0, z0_1, z0_2, z0_3, z0_4⟩ := cel5 Z0.out
          obtain ⟨z1_0, z1_1, z1_2, z1_3, z1_4⟩ := cel5 Z1.out
          go_wp2_with fail
          refine (K7.out _ _ _ F0.out HB.out).mono ?_
          rintro e v3 ⟨rfl, hb⟩
          clear z0_0 z0_1 z0_2 z0_3 z0_4 z1_0 z1_1 z1_2 z1_3 z1_4
          have Z0 := Lib.hid (zero_still hb Z0.out)
          have Z1 := Lib.hid (zero_still hb Z1.out)
          have F0 := Lib.hid (F0.out.below hb)
          have F1 := Lib.hid (F1.out.below hb)
          have HB := Lib.hid (below_then HB.out hb)
          clear hb
          obtain ⟨z0_0, z0_1, z0_2, z0_3, z0_4⟩ := cel5 Z0.out
          obtain ⟨z1_0, z1_1, z1_2, z1_3, z1_4⟩ := cel5 Z1.out
          go_wp2_with fail
          refine (K9.out _ _ _ F1.out HB.out).mono ?_
          rintro e v4 ⟨rfl, hb⟩
          clear z0_0 z0_1 z0_2 z0_3 z0_4 z1_0 z1_1 z1_2 z1_3 z1_4
          have Z0 := Lib.hid (zero_still hb Z0.out)
          have Z1 := Lib.hid (zero_still hb Z1.out)
          have F0 := Lib.hid (F0.out.below hb)
          have F1 := Lib.hid (F1.out.below hb)
          have HB := Lib.hid (below_then HB.out hb)
          clear hb
          obtain ⟨z0_0, z0_1, z0_2, z0_3, z0_4⟩ := cel5 Z0.out
          obtain ⟨z1_0, z1_1, z1_2, z1_3, z1_4⟩ := cel5 Z1.out
          go_wp2_with fail
          refine (CX.out _ HB.out).mono ?_
          rintro e v5 ⟨rfl, hb⟩
          clear z0_0 z0_1 z0_2 z0_3 z0_4 z1_0 z1_1 z1_2 z1_3 z1_4
          have Z0 := Lib.hid (zero_still hb Z0.out)
          have Z1 := Lib.hid (zero_still hb Z1.out)
          have F0 := Lib.hid (F0.out.below hb)
          have F1 := Lib.hid (F1.out.below hb)
          have HB := Lib.hid (below_then HB.out hb)
          clear hb
          go_wp2_with fail
          go_ret
          exact ⟨rfl, HB.out⟩

theorem door_met (os : Os) (args : Array Value) : laidMetH Tryz.prog Rows.messageBackRow.laid ((World.laidAll Tryz.prog os Rows.messageBackRow.laid).forCall (fun _ _ => 0) ⟨#[], args, []⟩).memory := by
  rw [MakeChecks.laidMetH_plain _ _ _ (by kernel_rfl)]
  exact laidMet_laidAll _ (by kernel_rfl) (by kernel_rfl)

set_option maxRecDepth 100000 in
theorem lifted (os : Os) (started : os.Started) (H : Type) (enc : TypeId × Value → H) :
    ReturnsInHanded {} Tryz.checked os 6 .any (fun w args => (Rows.messageBackSpec.pre enc Tryz.prog Tryz.f6 [] false w args ∧ laidMetH Tryz.prog Rows.messageBackRow.laid w) ∧ sizedMet enc Tryz.prog Tryz.f6 (OpenSpec.ofChange Rows.messageBackSpec) false w args) (Rows.messageBackSpec.post enc Tryz.prog Tryz.f6 false true false false) := by
  refine returns_and_shaped (C := Tryz.checked) (X := fun w _ => laidMetH Tryz.prog Rows.messageBackRow.laid w) (fun _ _ _ hh h => h.of_heap hh) own started (by kernel_rfl) Tryz.func6
    (ChangeSpec.witness_shaped (enc := enc) (C := Tryz.checked) (os := os) (X := fun w _ => laidMetH Tryz.prog Rows.messageBackRow.laid w) false (World.laidAll Tryz.prog os Rows.messageBackRow.laid) #[.agg #[.string ByteArray.empty, .string ByteArray.empty, .int .i64 0, .slice none 0 0, .string ByteArray.empty], .agg #[.int .i64 0, .string ByteArray.empty, .int .i64 0, .slice none 0 0, .string ByteArray.empty]] 8 rfl (World.shaped_of_ZipB (by kernel_rfl) (by kernel_rfl)) (by kernel_rfl) (by kernel_rfl) (by kernel_rfl) (door_met os _)) ?_
  intro W base args ds gs before hval0 hW hL hsh
  have hval : ∀ (j : Nat) t v, Tryz.f6.params[j]? = some t → args[j]? = some v → Value.okWide Tryz.prog W .any base t v := hval0
  have hW' := hW
  obtain ⟨p, q, hA0, hV, rfl, hfz, hnd⟩ := hW
  have hA : DataW.TrodAll enc Tryz.prog W 0 (fun _ => true) true Tryz.f6.params.toList args.toList ds p := hA0
  rw [Tryz.params6] at hA hval
  obtain ⟨v0, vs0, d0, ds0, p0, q0, hargs, rfl, rfl, h0, r0⟩ := trodAll_cons hA
  obtain ⟨v1, vs1, d1, ds1, p1, q1, rfl, rfl, rfl, h1, r1⟩ := trodAll_cons r0
  obtain ⟨rfl, rfl, rfl⟩ := trodAll_nil r1
  obtain rfl : args = #[v0, v1] := by cases args; simp_all
  obtain ⟨rfl, rfl⟩ := trodVars_none hV
  have k0 := h0
  have lt0 : ∀ x ∈ p0, x.block < W.heap.size := by obtain ⟨m, hm⟩ := k0; exact DataW.trod_lt m _ _ _ hm
  obtain ⟨a0, A0, c0, rfl, w0⟩ := WfQ.of_trod Tryz.underlying25 (by kernel_rfl) (by kernel_rfl) Tryz.underlying9 Tryz.underlying9 Tryz.underlying3 Tryz.underlying23 Tryz.underlying9 Tryz.underlying105 (by kernel_rfl) rfl rfl (by kernel_rfl) (by kernel_rfl) Tryz.underlying9 Tryz.underlying9 (hval 0 25 v0 rfl rfl) h0
  have k1 := h1
  have lt1 : ∀ x ∈ p1, x.block < W.heap.size := by obtain ⟨m, hm⟩ := k1; exact DataW.trod_lt m _ _ _ hm
  obtain ⟨a1, A1, c1, rfl, w1⟩ := WfP.of_trod Tryz.underlying34 (by kernel_rfl) (by kernel_rfl) Tryz.underlying3 Tryz.underlying9 Tryz.underlying3 Tryz.underlying23 Tryz.underlying9 Tryz.underlying105 (by kernel_rfl) rfl rfl (by kernel_rfl) (by kernel_rfl) Tryz.underlying9 Tryz.underlying9 (hval 1 34 v1 rfl rfl) h1
  clear hA0 hval0
  refine (walk a0 A0 c0 a1 A1 c1 W w0 w1 hL hsh).mono fun e W' ⟨he, bel⟩ => ?_
  subst he
  exact ⟨_, rfl, _, _, _, [], _, [], hW', trodAll_mk1 (shut_bool Tryz.underlying4 _), (trodAll_cons_mk (Below.trod laidOut (by kernel_rfl) (of_decide_eq_true (by kernel_rfl)) k0 bel lt0) (trodAll_cons_mk (Below.trod laidOut (by kernel_rfl) (of_decide_eq_true (by kernel_rfl)) k1 bel lt1) trodAll_mk0)), rfl, bel.frame _, fun h => by cases h⟩

theorem over : Rows.messageBackRow.holds Tryz.pinned (OpenSpec.ofChange Rows.messageBackSpec) :=
  OpenClaim.holds_of_wide 6 Tryz.f6 rfl rfl rfl rfl rfl rfl rfl ⟨rfl, rfl, rfl, rfl, rfl⟩ rfl rfl rfl rfl rfl (by kernel_rfl) Tryz.func6 (by kernel_rfl)
    (of_decide_eq_true (by kernel_rfl)) (by unfold Func.isWrapper; first | (rw [if_pos (by decide +kernel)]; kernel_rfl) | (rw [if_neg (by decide +kernel)]; exact ⟨rfl, rfl⟩))
    (fun os started H enc _ => lifted os started H enc)

theorem said : Rows.MessageBackSaid :=
  over

theorem plain (f : FuncId) (fn : Func) (hf : Tryz.pinned.checked.prog.funcNamed "depot/depotlaw12.MessageBack" = some f) (hfn : Tryz.pinned.checked.prog.funcs[f]? = some fn) :
    false = Tryz.pinned.checked.prog.looks [] ∧ ∀ (j : Nat) t, fn.params[j]? = some t → Tryz.pinned.checked.prog.wantsStandIn t = false := by
  obtain rfl : f = 6 := Option.some.inj ((show Tryz.prog.funcNamed "depot/depotlaw12.MessageBack" = some 6 by kernel_rfl).symm.trans hf) |>.symm
  obtain rfl : fn = Tryz.f6 := (Option.some.inj (Tryz.func6.symm.trans hfn)).symm
  refine ⟨by kernel_rfl, fun j t ht => ?_⟩
  rw [Tryz.params6] at ht
  · have hm := Array.mem_of_getElem? ht
    simp only [List.mem_toArray, List.mem_cons, List.not_mem_nil, or_false] at hm
    have all : Tryz.pinned.checked.prog.wantsStandIn 25 = false ∧ Tryz.pinned.checked.prog.wantsStandIn 34 = false := ⟨by kernel_rfl, by kernel_rfl⟩
    rcases hm with rfl | rfl
    all_goals first | with_reducible exact all.1 | with_reducible exact all.2

theorem proved : Rows.MessageBackCardSaid :=
  Claim7.holds_tied_plain_at .later [] _ _ _ _ said (fun _ h => by cases h) (by kernel_rfl) (fun _ h => by cases h) messageBack_row_tie rfl ⟨rfl, rfl⟩ (by kernel_rfl) rfl plain (by kernel_rfl)
#print axioms proved
end Go.Proofs.YtjcomlklmfeimaaGreatDoor.messageBack
