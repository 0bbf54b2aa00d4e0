/-
  The law MessagePrints (depotlaw12) returns true for every request, every reply and both ways, and leaves what it was given as it was. No condition.
-/
import Derived.Test.YtjcomlklmfeimaaGreatDoorRows
import Derived.WalkKit
import Derived.ProofKit
import Derived.OpenShut
import Derived.ShutString
import Derived.ChangeOld
import Derived.Below
import Derived.Test.YtjcomlklmfeimaaGreatDoorMrgA
import Derived.Test.YtjcomlklmfeimaaGreatDoorMrgB
import Derived.Test.YtjcomlklmfeimaaGreatDoorMrgC
import Derived.Test.YtjcomlklmfeimaaGreatDoorMrgD
import Derived.Test.YtjcomlklmfeimaaGreatDoorMrgE
import Derived.Test.YtjcomlklmfeimaaGreatDoorMrgF
import Derived.Test.YtjcomlklmfeimaaGreatDoorMrgG
import Derived.Test.YtjcomlklmfeimaaGreatDoorMrgH
import Derived.Test.YtjcomlklmfeimaaGreatDoorMrgI
import Derived.Test.YtjcomlklmfeimaaGreatDoorMrgJ
import Derived.Test.YtjcomlklmfeimaaGreatDoorMrgK
import Derived.Test.YtjcomlklmfeimaaGreatDoorMrgL
import Derived.Test.YtjcomlklmfeimaaGreatDoorMrgM
import Derived.Test.YtjcomlklmfeimaaGreatDoorMrgN
import Derived.Test.YtjcomlklmfeimaaGreatDoorMrgO
import Derived.Test.YtjcomlklmfeimaaGreatDoorMrgP
import Derived.Test.YtjcomlklmfeimaaGreatDoorMrgQ
import Derived.Test.YtjcomlklmfeimaaGreatDoorMrgR
import Derived.Test.YtjcomlklmfeimaaGreatDoorMrgS
import Derived.Test.YtjcomlklmfeimaaGreatDoorMrgT
import Derived.Test.YtjcomlklmfeimaaGreatDoorMrgU
import Derived.Test.YtjcomlklmfeimaaGreatDoorMrgV
import Derived.Test.YtjcomlklmfeimaaGreatDoorMrgW
import Derived.Test.YtjcomlklmfeimaaGreatDoorMrgX
import Derived.Test.YtjcomlklmfeimaaGreatDoorMrgY
import Derived.Test.YtjcomlklmfeimaaGreatDoorMrgZ
import Derived.Test.YtjcomlklmfeimaaGreatDoorMrgAA
import Derived.Test.YtjcomlklmfeimaaGreatDoorMrgAB
import Derived.Test.YtjcomlklmfeimaaGreatDoorMrgAC
import Derived.Test.YtjcomlklmfeimaaGreatDoorMrgAD
import Derived.Test.YtjcomlklmfeimaaGreatDoorMrgAE
import Derived.Test.YtjcomlklmfeimaaGreatDoorMrgAF
import Derived.Test.YtjcomlklmfeimaaGreatDoorMrgAG
import Derived.Test.YtjcomlklmfeimaaGreatDoorMrgAH
import Derived.Test.YtjcomlklmfeimaaGreatDoorMrgAI
import Derived.Test.YtjcomlklmfeimaaGreatDoorMrgAJ
import Derived.Test.YtjcomlklmfeimaaGreatDoorMrgAK
import Derived.Deep.RegionHeld3
import Derived.Test.YtjcomlklmfeimaaGreatDoorCards
import Derived.Test.YtjcomlklmfeimaaGreatDoorTie
import Derived.LaidMore
import Derived.Lib.LaidTab
import Derived.Stop.Joined
import Derived.Lay
namespace Go.Proofs.YtjcomlklmfeimaaGreatDoor.messagePrints
open Go.ChangeShapes Go.WideShapes Go.ChangeAt Go.RowKit
open Go.ChangeMaps (open_string shut_string)
set_option linter.unusedVariables false

theorem own : ownKnob Tryz.prog.godebug = none := by kernel_rfl
theorem laidOut : laidOutB Tryz.prog = true := by kernel_rfl

set_option maxHeartbeats 8000000 in
set_option maxRecDepth 100000 in
theorem walk (a0 : Rqst) (A0 : Option Addr) (c0 : Nat) (a1 : Rply) (A1 : Option Addr) (c1 : Nat) (a2 : Bool) (w : World) (w0 : WfQ w a0 A0 c0) (w1 : WfP w a1 A1 c1) (hL : laidMetH Tryz.prog Rows.messagePrintsRow.laid w) (hsh : w.ShapedOpen Tryz.prog) :
    Calls Tryz.prog 5 #[.agg (rqC a0 A0 c0), .agg (rpC a1 A1 c1), .bool a2] w fun e w' => e = .returned (.bool true) ∧ Below w.heap.size w w' := by
  have HT := Lib.hid (msgTabs hL hsh)
  clear hL hsh
  have cx := fun W (hW : Below w.heap.size w W) => ex12_any W (HT.out.kept hW)
  have CX := Lib.hid cx
  clear cx
  have K1 := Lib.hid (fun W A c (h : SlF W A a0.f.length c a0.f) => r_fewQ a0 A c W h)
  have K2 := Lib.hid (fun W A c (h : SlF W A a1.f.length c a1.f) => r_fewP a1 A c W h)
  have hq := fun h => (fwQ_sml (r := a0) h (wf_i64 w0.v)).1
  have hp := fun h => (fwP_sml (r := a1) h (wf_i64 w1.v) (wf_i64 w1.k)).1
  have K3 := Lib.hid (fun hm W A c (h : SlF W A a0.f.length c a0.f) (hW : Below w.heap.size w W) => pmQ_any a0 A c W h hm (HT.out.kept hW))
  have K4 := Lib.hid (fun hm W A c (h : SlF W A a0.f.length c a0.f) => r_pmQ a0 A c W h hm)
  have K5 := Lib.hid (fun hm W A c (h : SlF W A a1.f.length c a1.f) (hW : Below w.heap.size w W) => pmP_any a1 a2 A c W h hm (HT.out.kept hW))
  have K6 := Lib.hid (fun hm W A c (h : SlF W A a1.f.length c a1.f) => r_pmP a1 a2 A c W h hm)
  have K7 := Lib.hid (fun hm W A c (h : SlF W A a0.f.length c a0.f) (hW : Below w.heap.size w W) => ckQ_any a0 A c W h hm (HT.out.kept hW))
  have K8 := Lib.hid (fun hm W A c (h : SlF W A a0.f.length c a0.f) => r_ckQ a0 A c W h hm)
  have K9 := Lib.hid (fun hm W A c (h : SlF W A a1.f.length c a1.f) (hW : Below w.heap.size w W) => ckP_any a1 A c W h hm (HT.out.kept hW))
  have K10 := Lib.hid (fun hm W A c (h : SlF W A a1.f.length c a1.f) => r_ckP a1 A c W h hm)
  have K11 := Lib.hid (fun W (_ : Below w.heap.size w W) => bodl_any a1.c W)
  have K12 := Lib.hid (fun W => r_bodiless a1.c W)
  have hf0 := w0.f
  have hf1 := w1.f
  clear w0 w1
  generalize fwQ a0 = fq at *
  generalize fwP a1 = fp at *
  generalize SmlQ a0 = SQ at *
  generalize SmlP a1 = SP at *
  generalize pmQ a0 = PQ at *
  generalize pmP a1 a2 = PP at *
  generalize ckQ a0 = EQ at *
  generalize ckP a1 = EP at *
  unfold rqC rpC at *
  obtain ⟨m, t, v, f, b⟩ := a0
  obtain ⟨sc, sr, sv, sf, sb⟩ := a1
  simp only at *
  generalize bodL sc = bl at *
  have hb0 : Below w.heap.size w (w.alloc (.cells #[.string m, .string t, .int .i64 v, .slice A0 f.length c0, .string b] 25)) := (Below.refl _ _).alloc (Nat.le_refl _) _
  have HB : Hid (Below w.heap.size w ((w.alloc (.cells #[.string m, .string t, .int .i64 v, .slice A0 f.length c0, .string b] 25)).alloc (.cells #[.int .i64 sc, .string sr, .int .i64 sv, .slice A1 sf.length c1, .string sb] 34))) := hb0.alloc hb0.size _
  have Z0 : Hid (((w.alloc (.cells #[.string m, .string t, .int .i64 v, .slice A0 f.length c0, .string b] 25)).alloc (.cells #[.int .i64 sc, .string sr, .int .i64 sv, .slice A1 sf.length c1, .string sb] 34)).heap[w.heap.size]? = some (.cells #[.string m, .string t, .int .i64 v, .slice A0 f.length c0, .string b] 25 (0, 0))) := zero_more (heap_alloc_new w _)
  have z1 := heap_alloc_new (w.alloc (.cells #[.string m, .string t, .int .i64 v, .slice A0 f.length c0, .string b] 25)) (.cells #[.int .i64 sc, .string sr, .int .i64 sv, .slice A1 sf.length c1, .string sb] 34)
  rw [show (w.alloc (.cells #[.string m, .string t, .int .i64 v, .slice A0 f.length c0, .string b] 25)).heap.size = w.heap.size + 1 by simp] at z1
  have Z1 := Lib.hid z1
  have F0 : Hid (SlF ((w.alloc (.cells #[.string m, .string t, .int .i64 v, .slice A0 f.length c0, .string b] 25)).alloc (.cells #[.int .i64 sc, .string sr, .int .i64 sv, .slice A1 sf.length c1, .string sb] 34)) A0 f.length c0 f) := (hf0.alloc _).alloc _
  have F1 : Hid (SlF ((w.alloc (.cells #[.string m, .string t, .int .i64 v, .slice A0 f.length c0, .string b] 25)).alloc (.cells #[.int .i64 sc, .string sr, .int .i64 sv, .slice A1 sf.length c1, .string sb] 34)) A1 sf.length c1 sf) := (hf1.alloc _).alloc _
  clear hb0 z1 hf0 hf1
  cases fq with
  | false =>
    go_enter Tryz.func5, Tryz.ntmps5
    obtain ⟨x0, x1, x2, x3, x4⟩ := cel5 Z0.out
    obtain ⟨y0, y1, y2, y3, y4⟩ := cel5 Z1.out
    go_wp2_with fail
    refine (K1.out _ _ _ F0.out).mono ?_
    rintro e w1 ⟨rfl, hb⟩
    have HB := Lib.hid (below_then HB.out hb)
    have Z0 := Lib.hid (zero_still hb Z0.out)
    have Z1 := Lib.hid (zero_still hb Z1.out)
    have F0 := Lib.hid (F0.out.below hb)
    have F1 := Lib.hid (F1.out.below hb)
    clear hb x0 x1 x2 x3 x4 y0 y1 y2 y3 y4
    obtain ⟨x0, x1, x2, x3, x4⟩ := cel5 Z0.out
    obtain ⟨y0, y1, y2, y3, y4⟩ := cel5 Z1.out
    go_wp2_with fail
    refine (CX.out _ HB.out).mono ?_
    rintro e w9 ⟨rfl, hb9⟩
    go_wp2_with fail
    go_ret
    exact ⟨rfl, below_then HB.out hb9⟩
  | true =>
    cases fp with
    | false =>
      go_enter Tryz.func5, Tryz.ntmps5
      obtain ⟨x0, x1, x2, x3, x4⟩ := cel5 Z0.out
      obtain ⟨y0, y1, y2, y3, y4⟩ := cel5 Z1.out
      go_wp2_with fail
      refine (K1.out _ _ _ F0.out).mono ?_
      rintro e w1 ⟨rfl, hb⟩
      have HB := Lib.hid (below_then HB.out hb)
      have Z0 := Lib.hid (zero_still hb Z0.out)
      have Z1 := Lib.hid (zero_still hb Z1.out)
      have F0 := Lib.hid (F0.out.below hb)
      have F1 := Lib.hid (F1.out.below hb)
      clear hb x0 x1 x2 x3 x4 y0 y1 y2 y3 y4
      obtain ⟨x0, x1, x2, x3, x4⟩ := cel5 Z0.out
      obtain ⟨y0, y1, y2, y3, y4⟩ := cel5 Z1.out
      go_wp2_with fail
      refine (K2.out _ _ _ F1.out).mono ?_
      rintro e w1 ⟨rfl, hb⟩
      have HB := Lib.hid (below_then HB.out hb)
      have Z0 := Lib.hid (zero_still hb Z0.out)
      have Z1 := Lib.hid (zero_still hb Z1.out)
      have F0 := Lib.hid (F0.out.below hb)
      have F1 := Lib.hid (F1.out.below hb)
      clear hb x0 x1 x2 x3 x4 y0 y1 y2 y3 y4
      obtain ⟨x0, x1, x2, x3, x4⟩ := cel5 Z0.out
      obtain ⟨y0, y1, y2, y3, y4⟩ := cel5 Z1.out
      go_wp2_with fail
      refine (CX.out _ HB.out).mono ?_
      rintro e w9 ⟨rfl, hb9⟩
      go_wp2_with fail
      go_ret
      exact ⟨rfl, below_then HB.out hb9⟩
    | true =>
      have HQ := Lib.hid (hq rfl)
      have HP := Lib.hid (hp rfl)
      clear hq hp
      go_enter Tryz.func5, Tryz.ntmps5
      obtain ⟨x0, x1, x2, x3, x4⟩ := cel5 Z0.out
      obtain ⟨y0, y1, y2, y3, y4⟩ := cel5 Z1.out
      go_wp2_with fail
      refine (K1.out _ _ _ F0.out).mono ?_
      rintro e w1 ⟨rfl, hb⟩
      have HB := Lib.hid (below_then HB.out hb)
      have Z0 := Lib.hid (zero_still hb Z0.out)
      have Z1 := Lib.hid (zero_still hb Z1.out)
      have F0 := Lib.hid (F0.out.below hb)
      have F1 := Lib.hid (F1.out.below hb)
      clear hb x0 x1 x2 x3 x4 y0 y1 y2 y3 y4
      obtain ⟨x0, x1, x2, x3, x4⟩ := cel5 Z0.out
      obtain ⟨y0, y1, y2, y3, y4⟩ := cel5 Z1.out
      go_wp2_with fail
      refine (K2.out _ _ _ F1.out).mono ?_
      rintro e w1 ⟨rfl, hb⟩
      have HB := Lib.hid (below_then HB.out hb)
      have Z0 := Lib.hid (zero_still hb Z0.out)
      have Z1 := Lib.hid (zero_still hb Z1.out)
      have F0 := Lib.hid (F0.out.below hb)
      have F1 := Lib.hid (F1.out.below hb)
      clear hb x0 x1 x2 x3 x4 y0 y1 y2 y3 y4
      obtain ⟨x0, x1, x2, x3, x4⟩ := cel5 Z0.out
      obtain ⟨y0, y1, y2, y3, y4⟩ := cel5 Z1.out
      have HB := Lib.hid HB.out.drew
      have Z0 : Hid (w1.drew.heap[w.heap.size]? = some (.cells #[.string m, .string t, .int .i64 v, .slice A0 f.length c0, .string b] 25 (0, 0))) := Z0.out
      have Z1 : Hid (w1.drew.heap[w.heap.size + 1]? = some (.cells #[.int .i64 sc, .string sr, .int .i64 sv, .slice A1 sf.length c1, .string sb] 34 (0, 0))) := Z1.out
      have F0 := Lib.hid F0.out.drew
      have F1 := Lib.hid F1.out.drew
      have e1 : (PQ.toList == PQ.toList) = true := by simp
      have e2 : (PP.toList == PP.toList) = true := by simp
      have e3 : (EQ == EQ) = true := by simp
      have e4 : (EP == EP) = true := by simp
      have e5 : (bl == bl) = true := by simp
      go_wp2_with fail
      go_region_held3 (fun W => W.cell? ⟨w.heap.size, 0, none⟩ = some (.string m) ∧ W.cell? ⟨w.heap.size, 1, none⟩ = some (.string t) ∧ W.cell? ⟨w.heap.size, 2, none⟩ = some (.int .i64 v) ∧ W.cell? ⟨w.heap.size, 3, none⟩ = some (.slice A0 f.length c0) ∧ W.cell? ⟨w.heap.size, 4, none⟩ = some (.string b) ∧ W.cell? ⟨w.heap.size + 1, 0, none⟩ = some (.int .i64 sc) ∧ W.cell? ⟨w.heap.size + 1, 1, none⟩ = some (.string sr) ∧ W.cell? ⟨w.heap.size + 1, 2, none⟩ = some (.int .i64 sv) ∧ W.cell? ⟨w.heap.size + 1, 3, none⟩ = some (.slice A1 sf.length c1) ∧ W.cell? ⟨w.heap.size + 1, 4, none⟩ = some (.string sb)) (exact ⟨(cel5 Z0.out).1, (cel5 Z0.out).2.1, (cel5 Z0.out).2.2.1, (cel5 Z0.out).2.2.2.1, (cel5 Z0.out).2.2.2.2, (cel5 Z1.out).1, (cel5 Z1.out).2.1, (cel5 Z1.out).2.2.1, (cel5 Z1.out).2.2.2.1, (cel5 Z1.out).2.2.2.2⟩) (first
        | (go_at_call 17; refine (K3.out HQ.out _ _ _ F0.out HB.out).mono ?_; rintro e w5 ⟨rfl, hb⟩; have HB := Lib.hid (below_then HB.out hb); have Z0 := Lib.hid (zero_still hb Z0.out); have Z1 := Lib.hid (zero_still hb Z1.out); have F0 := Lib.hid (F0.out.below hb); have F1 := Lib.hid (F1.out.below hb); clear hb)
        | (go_at_call 18; refine (K4.out HQ.out _ _ _ F0.out).mono ?_; rintro e w5 ⟨rfl, hb⟩; have HB := Lib.hid (below_then HB.out hb); have Z0 := Lib.hid (zero_still hb Z0.out); have Z1 := Lib.hid (zero_still hb Z1.out); have F0 := Lib.hid (F0.out.below hb); have F1 := Lib.hid (F1.out.below hb); clear hb)
        | (go_at_call 19; refine (K5.out HP.out _ _ _ F1.out HB.out).mono ?_; rintro e w5 ⟨rfl, hb⟩; have HB := Lib.hid (below_then HB.out hb); have Z0 := Lib.hid (zero_still hb Z0.out); have Z1 := Lib.hid (zero_still hb Z1.out); have F0 := Lib.hid (F0.out.below hb); have F1 := Lib.hid (F1.out.below hb); clear hb)
        | (go_at_call 20; refine (K6.out HP.out _ _ _ F1.out).mono ?_; rintro e w5 ⟨rfl, hb⟩; have HB := Lib.hid (below_then HB.out hb); have Z0 := Lib.hid (zero_still hb Z0.out); have Z1 := Lib.hid (zero_still hb Z1.out); have F0 := Lib.hid (F0.out.below hb); have F1 := Lib.hid (F1.out.below hb); clear hb)
        | (go_at_call 21; refine (K7.out HQ.out _ _ _ F0.out HB.out).mono ?_; rintro e w5 ⟨rfl, hb⟩; have HB := Lib.hid (below_then HB.out hb); have Z0 := Lib.hid (zero_still hb Z0.out); have Z1 := Lib.hid (zero_still hb Z1.out); have F0 := Lib.hid (F0.out.below hb); have F1 := Lib.hid (F1.out.below hb); clear hb)
        | (go_at_call 22; refine (K8.out HQ.out _ _ _ F0.out).mono ?_; rintro e w5 ⟨rfl, hb⟩; have HB := Lib.hid (below_then HB.out hb); have Z0 := Lib.hid (zero_still hb Z0.out); have Z1 := Lib.hid (zero_still hb Z1.out); have F0 := Lib.hid (F0.out.below hb); have F1 := Lib.hid (F1.out.below hb); clear hb)
        | (go_at_call 23; refine (K9.out HP.out _ _ _ F1.out HB.out).mono ?_; rintro e w5 ⟨rfl, hb⟩; have HB := Lib.hid (below_then HB.out hb); have Z0 := Lib.hid (zero_still hb Z0.out); have Z1 := Lib.hid (zero_still hb Z1.out); have F0 := Lib.hid (F0.out.below hb); have F1 := Lib.hid (F1.out.below hb); clear hb)
        | (go_at_call 24; refine (K10.out HP.out _ _ _ F1.out).mono ?_; rintro e w5 ⟨rfl, hb⟩; have HB := Lib.hid (below_then HB.out hb); have Z0 := Lib.hid (zero_still hb Z0.out); have Z1 := Lib.hid (zero_still hb Z1.out); have F0 := Lib.hid (F0.out.below hb); have F1 := Lib.hid (F1.out.below hb); clear hb)
        | (go_at_call 25; refine (K11.out _ HB.out).mono ?_; rintro e w5 ⟨rfl, hb⟩; have HB := Lib.hid (below_then HB.out hb); have Z0 := Lib.hid (zero_still hb Z0.out); have Z1 := Lib.hid (zero_still hb Z1.out); have F0 := Lib.hid (F0.out.below hb); have F1 := Lib.hid (F1.out.below hb); clear hb)
        | (go_at_call 26; refine (K12.out _).mono ?_; rintro e w5 ⟨rfl, rfl⟩; skip)
        | (go_at_call 8; refine (CX.out _ HB.out).mono ?_; rintro e w5 ⟨rfl, hb⟩; have HB := Lib.hid (below_then HB.out hb); have Z0 := Lib.hid (zero_still hb Z0.out); have Z1 := Lib.hid (zero_still hb Z1.out); have F0 := Lib.hid (F0.out.below hb); have F1 := Lib.hid (F1.out.below hb); clear hb))
      go_wp2_with fail
      go_ret
      exact ⟨rfl, HB.out⟩

theorem door_met (os : Os) (args : Array Value) : laidMetH Tryz.prog Rows.messagePrintsRow.laid ((World.laidAll Tryz.prog os Rows.messagePrintsRow.laid).forCall (fun _ _ => 0) ⟨#[], args, []⟩).memory := by
  rw [MakeChecks.laidMetH_plain _ _ _ (by kernel_rfl)]
  exact laidMet_laidAll _ (by kernel_rfl) (by kernel_rfl)

set_option maxRecDepth 100000 in
theorem lifted (os : Os) (started : os.Started) (H : Type) (enc : TypeId × Value → H) :
    ReturnsInHanded {} Tryz.checked os 5 .any (fun w args => (Rows.messagePrintsSpec.pre enc Tryz.prog Tryz.f5 [] false w args ∧ laidMetH Tryz.prog Rows.messagePrintsRow.laid w) ∧ sizedMet enc Tryz.prog Tryz.f5 (OpenSpec.ofChange Rows.messagePrintsSpec) false w args) (Rows.messagePrintsSpec.post enc Tryz.prog Tryz.f5 false true false false) := by
  refine returns_and_shaped (C := Tryz.checked) (X := fun w _ => laidMetH Tryz.prog Rows.messagePrintsRow.laid w) (fun _ _ _ hh h => h.of_heap hh) own started (by kernel_rfl) Tryz.func5
    (ChangeSpec.witness_shaped (enc := enc) (C := Tryz.checked) (os := os) (X := fun w _ => laidMetH Tryz.prog Rows.messagePrintsRow.laid w) false (World.laidAll Tryz.prog os Rows.messagePrintsRow.laid) #[.agg #[.string ByteArray.empty, .string ByteArray.empty, .int .i64 0, .slice none 0 0, .string ByteArray.empty], .agg #[.int .i64 0, .string ByteArray.empty, .int .i64 0, .slice none 0 0, .string ByteArray.empty], .bool false] 8 rfl (World.shaped_of_ZipB (by kernel_rfl) (by kernel_rfl)) (by kernel_rfl) (by kernel_rfl) (by kernel_rfl) (door_met os _)) ?_
  intro W base args ds gs before hval0 hW hL hsh
  have hval : ∀ (j : Nat) t v, Tryz.f5.params[j]? = some t → args[j]? = some v → Value.okWide Tryz.prog W .any base t v := hval0
  have hW' := hW
  obtain ⟨p, q, hA0, hV, rfl, hfz, hnd⟩ := hW
  have hA : DataW.TrodAll enc Tryz.prog W 0 (fun _ => true) true Tryz.f5.params.toList args.toList ds p := hA0
  rw [Tryz.params5] at hA hval
  obtain ⟨v0, vs0, d0, ds0, p0, q0, hargs, rfl, rfl, h0, r0⟩ := trodAll_cons hA
  obtain ⟨v1, vs1, d1, ds1, p1, q1, rfl, rfl, rfl, h1, r1⟩ := trodAll_cons r0
  obtain ⟨v2, vs2, d2, ds2, p2, q2, rfl, rfl, rfl, h2, r2⟩ := trodAll_cons r1
  obtain ⟨rfl, rfl, rfl⟩ := trodAll_nil r2
  obtain rfl : args = #[v0, v1, v2] := by cases args; simp_all
  obtain ⟨rfl, rfl⟩ := trodVars_none hV
  have k0 := h0
  have lt0 : ∀ x ∈ p0, x.block < W.heap.size := by obtain ⟨m, hm⟩ := k0; exact DataW.trod_lt m _ _ _ hm
  obtain ⟨a0, A0, c0, rfl, w0⟩ := WfQ.of_trod Tryz.underlying25 (by kernel_rfl) (by kernel_rfl) Tryz.underlying9 Tryz.underlying9 Tryz.underlying3 Tryz.underlying23 Tryz.underlying9 Tryz.underlying105 (by kernel_rfl) rfl rfl (by kernel_rfl) (by kernel_rfl) Tryz.underlying9 Tryz.underlying9 (hval 0 25 v0 rfl rfl) h0
  have k1 := h1
  have lt1 : ∀ x ∈ p1, x.block < W.heap.size := by obtain ⟨m, hm⟩ := k1; exact DataW.trod_lt m _ _ _ hm
  obtain ⟨a1, A1, c1, rfl, w1⟩ := WfP.of_trod Tryz.underlying34 (by kernel_rfl) (by kernel_rfl) Tryz.underlying3 Tryz.underlying9 Tryz.underlying3 Tryz.underlying23 Tryz.underlying9 Tryz.underlying105 (by kernel_rfl) rfl rfl (by kernel_rfl) (by kernel_rfl) Tryz.underlying9 Tryz.underlying9 (hval 1 34 v1 rfl rfl) h1
  obtain ⟨a2, rfl, rfl, rfl⟩ := open_bool Tryz.underlying4 (hval 2 4 v2 rfl rfl) h2
  clear hA0 hval0
  refine (walk a0 A0 c0 a1 A1 c1 a2 W w0 w1 hL hsh).mono fun e W' ⟨he, bel⟩ => ?_
  subst he
  exact ⟨_, rfl, _, _, _, [], _, [], hW', trodAll_mk1 (shut_bool Tryz.underlying4 _), (trodAll_cons_mk (Below.trod laidOut (by kernel_rfl) (of_decide_eq_true (by kernel_rfl)) k0 bel lt0) (trodAll_cons_mk (Below.trod laidOut (by kernel_rfl) (of_decide_eq_true (by kernel_rfl)) k1 bel lt1) (trodAll_cons_mk (shut_bool Tryz.underlying4 _) trodAll_mk0))), rfl, bel.frame _, fun h => by cases h⟩

theorem over : Rows.messagePrintsRow.holds Tryz.pinned (OpenSpec.ofChange Rows.messagePrintsSpec) :=
  OpenClaim.holds_of_wide 5 Tryz.f5 rfl rfl rfl rfl rfl rfl rfl ⟨rfl, rfl, rfl, rfl, rfl⟩ rfl rfl rfl rfl rfl (by kernel_rfl) Tryz.func5 (by kernel_rfl)
    (of_decide_eq_true (by kernel_rfl)) (by unfold Func.isWrapper; first | (rw [if_pos (by decide +kernel)]; kernel_rfl) | (rw [if_neg (by decide +kernel)]; exact ⟨rfl, rfl⟩))
    (fun os started H enc _ => lifted os started H enc)

theorem said : Rows.MessagePrintsSaid :=
  over

theorem plain (f : FuncId) (fn : Func) (hf : Tryz.pinned.checked.prog.funcNamed "depot/depotlaw12.MessagePrints" = some f) (hfn : Tryz.pinned.checked.prog.funcs[f]? = some fn) :
    false = Tryz.pinned.checked.prog.looks [] ∧ ∀ (j : Nat) t, fn.params[j]? = some t → Tryz.pinned.checked.prog.wantsStandIn t = false := by
  obtain rfl : f = 5 := Option.some.inj ((show Tryz.prog.funcNamed "depot/depotlaw12.MessagePrints" = some 5 by kernel_rfl).symm.trans hf) |>.symm
  obtain rfl : fn = Tryz.f5 := (Option.some.inj (Tryz.func5.symm.trans hfn)).symm
  refine ⟨by kernel_rfl, fun j t ht => ?_⟩
  rw [Tryz.params5] at ht
  · have hm := Array.mem_of_getElem? ht
    simp only [List.mem_toArray, List.mem_cons, List.not_mem_nil, or_false] at hm
    have all : Tryz.pinned.checked.prog.wantsStandIn 4 = false ∧ Tryz.pinned.checked.prog.wantsStandIn 25 = false ∧ Tryz.pinned.checked.prog.wantsStandIn 34 = false := ⟨by kernel_rfl, by kernel_rfl, by kernel_rfl⟩
    rcases hm with rfl | rfl | rfl
    all_goals first | with_reducible exact all.1 | with_reducible exact all.2.1 | with_reducible exact all.2.2

theorem proved : Rows.MessagePrintsCardSaid :=
  Claim7.holds_tied_plain_at .later [] _ _ _ _ said (fun _ h => by cases h) (by kernel_rfl) (fun _ h => by cases h) messagePrints_row_tie rfl ⟨rfl, rfl⟩ (by kernel_rfl) rfl plain (by kernel_rfl)
#print axioms proved
end Go.Proofs.YtjcomlklmfeimaaGreatDoor.messagePrints
