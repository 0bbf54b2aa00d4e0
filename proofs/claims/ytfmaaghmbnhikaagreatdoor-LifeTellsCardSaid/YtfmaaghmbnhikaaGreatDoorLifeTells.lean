/-
  The law LifeTells (depotlaw17) returns true for every stored reply and every time, and leaves what it was given as it was. No condition but that the tables of the program and of the library hold what their initialisers lay.
-/
import Derived.Test.YtfmaaghmbnhikaaGreatDoorRows
import Derived.WalkKit
import Derived.ProofKit
import Derived.OpenShut
import Derived.ShutString
import Derived.ChangeOld
import Derived.Below
import Derived.Test.YtfmaaghmbnhikaaGreatDoorMrgA
import Derived.Test.YtfmaaghmbnhikaaGreatDoorMrgB
import Derived.Test.YtfmaaghmbnhikaaGreatDoorMrgC
import Derived.Test.YtfmaaghmbnhikaaGreatDoorMrgD
import Derived.Test.YtfmaaghmbnhikaaGreatDoorMrgE
import Derived.Test.YtfmaaghmbnhikaaGreatDoorMrgF
import Derived.Test.YtfmaaghmbnhikaaGreatDoorMrgG
import Derived.Test.YtfmaaghmbnhikaaGreatDoorMrgH
import Derived.Test.YtfmaaghmbnhikaaGreatDoorMrgI
import Derived.Test.YtfmaaghmbnhikaaGreatDoorMrgJ
import Derived.Test.YtfmaaghmbnhikaaGreatDoorMrgK
import Derived.Test.YtfmaaghmbnhikaaGreatDoorMrgL
import Derived.Test.YtfmaaghmbnhikaaGreatDoorMrgM
import Derived.Test.YtfmaaghmbnhikaaGreatDoorMrgN
import Derived.Test.YtfmaaghmbnhikaaGreatDoorMrgO
import Derived.Test.YtfmaaghmbnhikaaGreatDoorMrgP
import Derived.Test.YtfmaaghmbnhikaaGreatDoorMrgQ
import Derived.Test.YtfmaaghmbnhikaaGreatDoorMrgR
import Derived.Test.YtfmaaghmbnhikaaGreatDoorMrgS
import Derived.Test.YtfmaaghmbnhikaaGreatDoorMrgT
import Derived.Test.YtfmaaghmbnhikaaGreatDoorMrgU
import Derived.Test.YtfmaaghmbnhikaaGreatDoorMrgV
import Derived.Test.YtfmaaghmbnhikaaGreatDoorMrgW
import Derived.Test.YtfmaaghmbnhikaaGreatDoorMrgX
import Derived.Test.YtfmaaghmbnhikaaGreatDoorMrgY
import Derived.Test.YtfmaaghmbnhikaaGreatDoorMrgZ
import Derived.Test.YtfmaaghmbnhikaaGreatDoorMrgAA
import Derived.Test.YtfmaaghmbnhikaaGreatDoorMrgAB
import Derived.Test.YtfmaaghmbnhikaaGreatDoorMrgAC
import Derived.Test.YtfmaaghmbnhikaaGreatDoorMrgAD
import Derived.Test.YtfmaaghmbnhikaaGreatDoorMrgAE
import Derived.Test.YtfmaaghmbnhikaaGreatDoorMrgAF
import Derived.Test.YtfmaaghmbnhikaaGreatDoorMrgAG
import Derived.Test.YtfmaaghmbnhikaaGreatDoorMrgAH
import Derived.Test.YtfmaaghmbnhikaaGreatDoorMrgAI
import Derived.Test.YtfmaaghmbnhikaaGreatDoorMrgAJ
import Derived.Test.YtfmaaghmbnhikaaGreatDoorMrgAK
import Derived.Test.YtfmaaghmbnhikaaGreatDoorMrgAL
import Derived.Test.YtfmaaghmbnhikaaGreatDoorMrgAM
import Derived.Test.YtfmaaghmbnhikaaGreatDoorMrgAN
import Derived.Test.YtfmaaghmbnhikaaGreatDoorMrgAO
import Derived.Test.YtfmaaghmbnhikaaGreatDoorMrgAP
import Derived.Test.YtfmaaghmbnhikaaGreatDoorMrgAQ
import Derived.Test.YtfmaaghmbnhikaaGreatDoorMrgAR
import Derived.Test.YtfmaaghmbnhikaaGreatDoorMrgAS
import Derived.Test.YtfmaaghmbnhikaaGreatDoorMrgAT
import Derived.Test.YtfmaaghmbnhikaaGreatDoorMrgAU
import Derived.Test.YtfmaaghmbnhikaaGreatDoorMrgAV
import Derived.Test.YtfmaaghmbnhikaaGreatDoorMrgAW
import Derived.Test.YtfmaaghmbnhikaaGreatDoorMrgAX
import Derived.Test.YtfmaaghmbnhikaaGreatDoorMrgAY
import Derived.Test.YtfmaaghmbnhikaaGreatDoorMrgAZ
import Derived.Test.YtfmaaghmbnhikaaGreatDoorMrgBA
import Derived.Deep.RegionHeld3
import Derived.Test.YtfmaaghmbnhikaaGreatDoorCards
import Derived.Test.YtfmaaghmbnhikaaGreatDoorTie
import Derived.LaidMore
import Derived.Lib.LaidTab
import Derived.Stop.Joined
import Derived.Lay
namespace Go.Proofs.YtfmaaghmbnhikaaGreatDoor.lifeTells
open Go.ChangeShapes Go.WideShapes Go.ChangeAt Go.RowKit
open Go.ChangeMaps (open_string shut_string)
set_option linter.unusedVariables false

theorem own : ownKnob Tryz.prog.godebug = none := by kernel_rfl
theorem laidOut : laidOutB Tryz.prog = true := by kernel_rfl

set_option maxHeartbeats 8000000 in
set_option maxRecDepth 100000 in
theorem walk (a0 : Stor) (A0 : Option Addr) (c0 : Nat) (B0 : Option Addr) (n0 m0 : Nat) (a1 : Int) (w : World) (w0 : WfS w a0 A0 c0) (w1 : (Lit.int .i64 a1).wf = true) (hL : laidMetH Tryz.prog Rows.lifeTellsRow.laid w) (hsh : w.ShapedOpen Tryz.prog) :
    Calls Tryz.prog 3 #[.agg (stC a0 A0 c0 B0 n0 m0), .int .i64 a1] w fun e w' => e = .returned (.bool true) ∧ Below w.heap.size w w' := by
  have HT := Lib.hid (lifTabs hL)
  clear hL hsh
  have CX := Lib.hid (fun W (hW : Below w.heap.size w W) => ex17_any W (HT.out.kept hW))
  have HF := Lib.hid (fun W (hW : Below w.heap.size w W) => w0.f.below hW)
  have kf := fun W (hW : Below w.heap.size w W) => r_fewR a0 A0 c0 W (w0.f.below hW)
  have hfy := fun h => fwR_yes (s := a0) h
  cases hfw : fwR a0 with
  | false =>
    rw [hfw] at kf
    have KF := Lib.hid kf
    obtain ⟨sc, sr, sv, sf, sb, st⟩ := a0
    clear w0 hfy hfw kf HF
    unfold stC srC at *
    simp only at *
    have HB : Hid (Below w.heap.size w (w.alloc (.cells #[.int .i64 sc, .string sr, .int .i64 sv, .slice A0 sf.length c0, .string sb, .int .i64 st, .slice B0 n0 m0] 27))) := (Below.refl _ _).alloc (Nat.le_refl _) _
    have Z0 : Hid ((w.alloc (.cells #[.int .i64 sc, .string sr, .int .i64 sv, .slice A0 sf.length c0, .string sb, .int .i64 st, .slice B0 n0 m0] 27)).heap[w.heap.size]? = some (.cells #[.int .i64 sc, .string sr, .int .i64 sv, .slice A0 sf.length c0, .string sb, .int .i64 st, .slice B0 n0 m0] 27 (0, 0))) := heap_alloc_new w _
    obtain ⟨q0, q1, q2, q3, q4, q5, q6⟩ := cel7 Z0.out
    go_enter Tryz.func3, Tryz.ntmps3
    go_wp2_with fail
    refine (KF.out _ HB.out).mono ?_
    rintro e v1 ⟨rfl, hb⟩
    have Z0 := Lib.hid (zero_still hb Z0.out)
    have HB := Lib.hid (below_then HB.out hb)
    clear hb q0 q1 q2 q3 q4 q5 q6
    go_wp2_with fail
    refine (CX.out _ HB.out).mono ?_
    rintro e v9 ⟨rfl, hb⟩
    go_wp2_with fail
    go_ret
    exact ⟨rfl, below_then HB.out hb⟩
  | true =>
    rw [hfw] at kf
    have KF := Lib.hid kf
    have hL := (hfy hfw).1
    have K1 := Lib.hid (fun W (hW : Below w.heap.size w W) => lifA_any a0 A0 c0 B0 n0 m0 a1 W (HF.out W hW) hL (HT.out.kept hW))
    have K2 := Lib.hid (fun W (hW : Below w.heap.size w W) => r_age a0 A0 c0 B0 n0 m0 a1 W (HF.out W hW) hL)
    have K3 := Lib.hid (fun W (hW : Below w.heap.size w W) => lifL_any a0 A0 c0 B0 n0 m0 W (HF.out W hW) hL (HT.out.kept hW))
    have K4 := Lib.hid (fun W (hW : Below w.heap.size w W) => r_life a0 A0 c0 B0 n0 m0 W (HF.out W hW) hL)
    have K5 := Lib.hid (fun W (hW : Below w.heap.size w W) => lifF_any a0 A0 c0 B0 n0 m0 a1 W (HF.out W hW) hL (HT.out.kept hW))
    have K6 := Lib.hid (fun W (hW : Below w.heap.size w W) => r_fresh a0 A0 c0 B0 n0 m0 a1 W (HF.out W hW) hL)
    have K7 := Lib.hid (fun W (hW : Below w.heap.size w W) => lifE_any a0 A0 c0 B0 n0 m0 a1 W (HF.out W hW) hL (HT.out.kept hW))
    have K8 := Lib.hid (fun W (hW : Below w.heap.size w W) => r_left a0 A0 c0 B0 n0 m0 a1 W (HF.out W hW) hL)
    generalize ageN a0.f a0.t a1 = x1 at *
    generalize lifN a0.f a0.c a0.t = x2 at *
    generalize frsB a0.f a0.c a0.t a1 = x3 at *
    generalize lefN a0.f a0.c a0.t a1 = x4 at *
    have e1 : (x1 == x1) = true := by simp
    have e2 : (x2 == x2) = true := by simp
    have e3 : (x3 == x3) = true := by simp
    have e4 : (x4 == x4) = true := by simp
    obtain ⟨sc, sr, sv, sf, sb, st⟩ := a0
    clear w0 hfy hfw kf HF hL
    unfold stC srC at *
    simp only at *
    have HB : Hid (Below w.heap.size w (w.alloc (.cells #[.int .i64 sc, .string sr, .int .i64 sv, .slice A0 sf.length c0, .string sb, .int .i64 st, .slice B0 n0 m0] 27))) := (Below.refl _ _).alloc (Nat.le_refl _) _
    have Z0 : Hid ((w.alloc (.cells #[.int .i64 sc, .string sr, .int .i64 sv, .slice A0 sf.length c0, .string sb, .int .i64 st, .slice B0 n0 m0] 27)).heap[w.heap.size]? = some (.cells #[.int .i64 sc, .string sr, .int .i64 sv, .slice A0 sf.length c0, .string sb, .int .i64 st, .slice B0 n0 m0] 27 (0, 0))) := heap_alloc_new w _
    obtain ⟨q0, q1, q2, q3, q4, q5, q6⟩ := cel7 Z0.out
    go_enter Tryz.func3, Tryz.ntmps3
    go_wp2_with fail
    refine (KF.out _ HB.out).mono ?_
    rintro e v1 ⟨rfl, hb⟩
    have Z0 := Lib.hid (zero_still hb Z0.out)
    have HB := Lib.hid (below_then HB.out hb)
    clear hb q0 q1 q2 q3 q4 q5 q6
    obtain ⟨q0, q1, q2, q3, q4, q5, q6⟩ := cel7 Z0.out
    go_wp2_with fail
    clear q0 q1 q2 q3 q4 q5 q6
    have HB := Lib.hid HB.out.drew
    have Z0 : Hid (v1.drew.heap[w.heap.size]? = some (.cells #[.int .i64 sc, .string sr, .int .i64 sv, .slice A0 sf.length c0, .string sb, .int .i64 st, .slice B0 n0 m0] 27 (0, 0))) := Z0.out
    go_region_held3 (fun W => W.cell? ⟨w.heap.size, 0, none⟩ = some (.int .i64 sc) ∧ W.cell? ⟨w.heap.size, 1, none⟩ = some (.string sr) ∧ W.cell? ⟨w.heap.size, 2, none⟩ = some (.int .i64 sv) ∧ W.cell? ⟨w.heap.size, 3, none⟩ = some (.slice A0 sf.length c0) ∧ W.cell? ⟨w.heap.size, 4, none⟩ = some (.string sb) ∧ W.cell? ⟨w.heap.size, 5, none⟩ = some (.int .i64 st) ∧ W.cell? ⟨w.heap.size, 6, none⟩ = some (.slice B0 n0 m0)) (exact cel7 Z0.out) (first
      | (go_at_call 9; refine (K1.out _ HB.out).mono ?_; rintro e w5 ⟨rfl, hb⟩; have Z0 := Lib.hid (zero_still hb Z0.out); have HB := Lib.hid (below_then HB.out hb); clear hb)
      | (go_at_call 10; refine (K2.out _ HB.out).mono ?_; rintro e w5 ⟨rfl, hb⟩; have Z0 := Lib.hid (zero_still hb Z0.out); have HB := Lib.hid (below_then HB.out hb); clear hb)
      | (go_at_call 11; refine (K3.out _ HB.out).mono ?_; rintro e w5 ⟨rfl, hb⟩; have Z0 := Lib.hid (zero_still hb Z0.out); have HB := Lib.hid (below_then HB.out hb); clear hb)
      | (go_at_call 12; refine (K4.out _ HB.out).mono ?_; rintro e w5 ⟨rfl, hb⟩; have Z0 := Lib.hid (zero_still hb Z0.out); have HB := Lib.hid (below_then HB.out hb); clear hb)
      | (go_at_call 13; refine (K5.out _ HB.out).mono ?_; rintro e w5 ⟨rfl, hb⟩; have Z0 := Lib.hid (zero_still hb Z0.out); have HB := Lib.hid (below_then HB.out hb); clear hb)
      | (go_at_call 14; refine (K6.out _ HB.out).mono ?_; rintro e w5 ⟨rfl, hb⟩; have Z0 := Lib.hid (zero_still hb Z0.out); have HB := Lib.hid (below_then HB.out hb); clear hb)
      | (go_at_call 15; refine (K7.out _ HB.out).mono ?_; rintro e w5 ⟨rfl, hb⟩; have Z0 := Lib.hid (zero_still hb Z0.out); have HB := Lib.hid (below_then HB.out hb); clear hb)
      | (go_at_call 16; refine (K8.out _ HB.out).mono ?_; rintro e w5 ⟨rfl, hb⟩; have Z0 := Lib.hid (zero_still hb Z0.out); have HB := Lib.hid (below_then HB.out hb); clear hb)
      | (go_at_call 8; refine (CX.out _ HB.out).mono ?_; rintro e w5 ⟨rfl, hb⟩; have Z0 := Lib.hid (zero_still hb Z0.out); have HB := Lib.hid (below_then HB.out hb); clear hb))
    go_wp2_with fail
    go_ret
    exact ⟨rfl, HB.out⟩

theorem door_met (os : Os) (args : Array Value) : laidMetH Tryz.prog Rows.lifeTellsRow.laid ((World.laidAll Tryz.prog os Rows.lifeTellsRow.laid).forCall (fun _ _ => 0) ⟨#[], args, []⟩).memory := by
  rw [MakeChecks.laidMetH_plain _ _ _ (by kernel_rfl)]
  exact laidMet_laidAll _ (by kernel_rfl) (by kernel_rfl)

set_option maxRecDepth 100000 in
theorem lifted (os : Os) (started : os.Started) (H : Type) (enc : TypeId × Value → H) :
    ReturnsInHanded {} Tryz.checked os 3 .any (fun w args => (Rows.lifeTellsSpec.pre enc Tryz.prog Tryz.f3 [] false w args ∧ laidMetH Tryz.prog Rows.lifeTellsRow.laid w) ∧ sizedMet enc Tryz.prog Tryz.f3 (OpenSpec.ofChange Rows.lifeTellsSpec) false w args) (Rows.lifeTellsSpec.post enc Tryz.prog Tryz.f3 false true false false) := by
  refine returns_and_shaped (C := Tryz.checked) (X := fun w _ => laidMetH Tryz.prog Rows.lifeTellsRow.laid w) (fun _ _ _ hh h => h.of_heap hh) own started (by kernel_rfl) Tryz.func3
    (ChangeSpec.witness_shaped (enc := enc) (C := Tryz.checked) (os := os) (X := fun w _ => laidMetH Tryz.prog Rows.lifeTellsRow.laid w) false (World.laidAll Tryz.prog os Rows.lifeTellsRow.laid) #[.agg #[.int .i64 0, .string ByteArray.empty, .int .i64 0, .slice none 0 0, .string ByteArray.empty, .int .i64 0, .slice none 0 0], .int .i64 0] 8 rfl (World.shaped_of_ZipB (by kernel_rfl) (by kernel_rfl)) (by kernel_rfl) (by kernel_rfl) (by kernel_rfl) (door_met os _)) ?_
  intro W base args ds gs before hval0 hW hL hsh
  have hval : ∀ (j : Nat) t v, Tryz.f3.params[j]? = some t → args[j]? = some v → Value.okWide Tryz.prog W .any base t v := hval0
  have hW' := hW
  obtain ⟨p, q, hA0, hV, rfl, hfz, hnd⟩ := hW
  have hA : DataW.TrodAll enc Tryz.prog W 0 (fun _ => true) true Tryz.f3.params.toList args.toList ds p := hA0
  rw [Tryz.params3] at hA hval
  obtain ⟨v0, vs0, d0, ds0, p0, q0, hargs, rfl, rfl, h0, r0⟩ := trodAll_cons hA
  obtain ⟨v1, vs1, d1, ds1, p1, q1, rfl, rfl, rfl, h1, r1⟩ := trodAll_cons r0
  obtain ⟨rfl, rfl, rfl⟩ := trodAll_nil r1
  obtain rfl : args = #[v0, v1] := by cases args; simp_all
  obtain ⟨rfl, rfl⟩ := trodVars_none hV
  have k0 := h0
  have lt0 : ∀ x ∈ p0, x.block < W.heap.size := by obtain ⟨m, hm⟩ := k0; exact DataW.trod_lt m _ _ _ hm
  obtain ⟨a0, A0, c0, B0, n0, m0, rfl, w0⟩ := WfS.of_trod Tryz.underlying27 (by kernel_rfl) rfl rfl rfl (by kernel_rfl) (by kernel_rfl) (by kernel_rfl) Tryz.underlying24 Tryz.underlying3 Tryz.underlying25 rfl rfl rfl rfl rfl (by kernel_rfl) (by kernel_rfl) (by kernel_rfl) (by kernel_rfl) (by kernel_rfl) Tryz.underlying3 Tryz.underlying9 Tryz.underlying3 Tryz.underlying22 Tryz.underlying9 Tryz.underlying40 (by kernel_rfl) rfl rfl (by kernel_rfl) (by kernel_rfl) Tryz.underlying9 Tryz.underlying9 (hval 0 27 v0 rfl rfl) h0
  obtain ⟨a1, rfl, rfl, rfl, w1⟩ := open_int Tryz.underlying3 (hval 1 3 v1 rfl rfl) h1
  clear hA0 hval0
  refine (walk a0 A0 c0 B0 n0 m0 a1 W w0 w1 hL hsh).mono fun e W' ⟨he, bel⟩ => ?_
  subst he
  exact ⟨_, rfl, _, _, _, [], _, [], hW', trodAll_mk1 (shut_bool Tryz.underlying4 _), (trodAll_cons_mk (Below.trod laidOut (by kernel_rfl) (of_decide_eq_true (by kernel_rfl)) k0 bel lt0) (trodAll_cons_mk (shut_int Tryz.underlying3 w1) trodAll_mk0)), rfl, bel.frame _, fun h => by cases h⟩

theorem over : Rows.lifeTellsRow.holds Tryz.pinned (OpenSpec.ofChange Rows.lifeTellsSpec) :=
  OpenClaim.holds_of_wide 3 Tryz.f3 rfl rfl rfl rfl rfl rfl rfl ⟨rfl, rfl, rfl, rfl, rfl⟩ rfl rfl rfl rfl rfl (by kernel_rfl) Tryz.func3 (by kernel_rfl)
    (of_decide_eq_true (by kernel_rfl)) (by unfold Func.isWrapper; first | (rw [if_pos (by decide +kernel)]; kernel_rfl) | (rw [if_neg (by decide +kernel)]; exact ⟨rfl, rfl⟩))
    (fun os started H enc _ => lifted os started H enc)

theorem said : Rows.LifeTellsSaid :=
  over

theorem plain (f : FuncId) (fn : Func) (hf : Tryz.pinned.checked.prog.funcNamed "depot/depotlaw17.LifeTells" = some f) (hfn : Tryz.pinned.checked.prog.funcs[f]? = some fn) :
    false = Tryz.pinned.checked.prog.looks [] ∧ ∀ (j : Nat) t, fn.params[j]? = some t → Tryz.pinned.checked.prog.wantsStandIn t = false := by
  obtain rfl : f = 3 := Option.some.inj ((show Tryz.prog.funcNamed "depot/depotlaw17.LifeTells" = some 3 by kernel_rfl).symm.trans hf) |>.symm
  obtain rfl : fn = Tryz.f3 := (Option.some.inj (Tryz.func3.symm.trans hfn)).symm
  refine ⟨by kernel_rfl, fun j t ht => ?_⟩
  rw [Tryz.params3] at ht
  · have hm := Array.mem_of_getElem? ht
    simp only [List.mem_toArray, List.mem_cons, List.not_mem_nil, or_false] at hm
    have all : Tryz.pinned.checked.prog.wantsStandIn 3 = false ∧ Tryz.pinned.checked.prog.wantsStandIn 27 = false := ⟨by kernel_rfl, by kernel_rfl⟩
    rcases hm with rfl | rfl
    all_goals first | with_reducible exact all.1 | with_reducible exact all.2

theorem proved : Rows.LifeTellsCardSaid :=
  Claim7.holds_tied_plain_at .later [] _ _ _ _ said (fun _ h => by cases h) (by kernel_rfl) (fun _ h => by cases h) lifeTells_row_tie rfl ⟨rfl, rfl⟩ (by kernel_rfl) rfl plain (by kernel_rfl)
#print axioms proved
end Go.Proofs.YtfmaaghmbnhikaaGreatDoor.lifeTells
