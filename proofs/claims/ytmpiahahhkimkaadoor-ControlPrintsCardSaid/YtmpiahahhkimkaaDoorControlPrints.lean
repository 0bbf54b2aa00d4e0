/-
  The law ControlPrints (depotlaw13) returns true for every Control and any two integers, and leaves what it was given as it was. No condition.
-/
import Derived.Test.YtmpiahahhkimkaaDoorRows
import Derived.WalkKit
import Derived.ProofKit
import Derived.OpenShut
import Derived.ShutString
import Derived.ChangeOld
import Derived.Below
import Derived.Test.YtmpiahahhkimkaaDoorMrgA
import Derived.Test.YtmpiahahhkimkaaDoorMrgB
import Derived.Test.YtmpiahahhkimkaaDoorMrgC
import Derived.Test.YtmpiahahhkimkaaDoorMrgD
import Derived.Test.YtmpiahahhkimkaaDoorMrgE
import Derived.Test.YtmpiahahhkimkaaDoorMrgF
import Derived.Test.YtmpiahahhkimkaaDoorMrgG
import Derived.Test.YtmpiahahhkimkaaDoorMrgH
import Derived.Test.YtmpiahahhkimkaaDoorMrgI
import Derived.Test.YtmpiahahhkimkaaDoorMrgJ
import Derived.Test.YtmpiahahhkimkaaDoorMrgK
import Derived.Test.YtmpiahahhkimkaaDoorMrgL
import Derived.Test.YtmpiahahhkimkaaDoorMrgM
import Derived.Test.YtmpiahahhkimkaaDoorMrgN
import Derived.Test.YtmpiahahhkimkaaDoorMrgO
import Derived.Test.YtmpiahahhkimkaaDoorMrgP
import Derived.Test.YtmpiahahhkimkaaDoorMrgQ
import Derived.Test.YtmpiahahhkimkaaDoorMrgR
import Derived.Test.YtmpiahahhkimkaaDoorMrgS
import Derived.Test.YtmpiahahhkimkaaDoorMrgT
import Derived.Test.YtmpiahahhkimkaaDoorMrgU
import Derived.Test.YtmpiahahhkimkaaDoorMrgV
import Derived.Deep.RegionHeld3
import Derived.Test.YtmpiahahhkimkaaDoorCards
import Derived.Test.YtmpiahahhkimkaaDoorTie
import Derived.LaidMore
import Derived.Lib.LaidTab
import Derived.Stop.Joined
import Derived.Lay
namespace Go.Proofs.YtmpiahahhkimkaaDoor.controlPrints
open Go.ChangeShapes Go.WideShapes Go.ChangeAt Go.RowKit
open Go.ChangeMaps (open_string shut_string)
set_option linter.unusedVariables false

theorem own : ownKnob Tryd.prog.godebug = none := by kernel_rfl
theorem laidOut : laidOutB Tryd.prog = true := by kernel_rfl

set_option maxHeartbeats 8000000 in
set_option maxRecDepth 100000 in
theorem walk (a0 : Ctl) (a1 : Int) (a2 : Int) (w : World) (w0 : CtB a0) (w1 : (Lit.int .i64 a1).wf = true) (w2 : (Lit.int .i64 a2).wf = true) (hL : laidMetH Tryd.prog Rows.controlPrintsRow.laid w) :
    Calls Tryd.prog 3 #[.agg (ctC a0), .int .i64 a1, .int .i64 a2] w fun e w' => e = .returned (.bool true) ∧ Below w.heap.size w w' := by
  have HT := Lib.hid (ctlPow hL)
  have CX := Lib.hid (fun W (hW : Below w.heap.size w W) => ex13_any W (powL_kept HT.out hW))
  have K1 := Lib.hid (fun W (hW : Below w.heap.size w W) => ctlS_any a0 w0 W (powL_kept HT.out hW))
  have K2 := Lib.hid (fun W => r_ctlPrint a0 w0.1 w0.2.1 w0.2.2 W)
  have K3 := Lib.hid (fun W (_ : Below w.heap.size w W) => lea_any a1 a2 W)
  have K4 := Lib.hid (fun W => r_least a1 a2 W)
  generalize ctS a0 = PS at *
  generalize leaN a1 a2 = LS at *
  clear w0
  unfold ctC at *
  obtain ⟨ns, nc, pv, pu, mc, oi, ma, sh, mf⟩ := a0
  simp only at *
  have Z0 : Hid ((w.alloc (.cells #[.bool ns, .bool nc, .bool pv, .bool pu, .bool mc, .bool oi, .int .i64 ma, .int .i64 sh, .int .i64 mf] 23)).drew.heap[w.heap.size]? = some (.cells #[.bool ns, .bool nc, .bool pv, .bool pu, .bool mc, .bool oi, .int .i64 ma, .int .i64 sh, .int .i64 mf] 23 (0, 0))) := heap_alloc_new w _
  have HB : Hid (Below w.heap.size w (w.alloc (.cells #[.bool ns, .bool nc, .bool pv, .bool pu, .bool mc, .bool oi, .int .i64 ma, .int .i64 sh, .int .i64 mf] 23)).drew) := ((Below.refl _ _).alloc (Nat.le_refl _) _).drew
  have e1 : (PS.toList == PS.toList) = true := by simp
  have e2 : (LS == LS) = true := by simp
  go_enter Tryd.func3, Tryd.ntmps3
  go_wp2_with fail
  go_region_held3 (fun W => W.cell? ⟨w.heap.size, 0, none⟩ = some (.bool ns) ∧ W.cell? ⟨w.heap.size, 1, none⟩ = some (.bool nc) ∧ W.cell? ⟨w.heap.size, 2, none⟩ = some (.bool pv) ∧ W.cell? ⟨w.heap.size, 3, none⟩ = some (.bool pu) ∧ W.cell? ⟨w.heap.size, 4, none⟩ = some (.bool mc) ∧ W.cell? ⟨w.heap.size, 5, none⟩ = some (.bool oi) ∧ W.cell? ⟨w.heap.size, 6, none⟩ = some (.int .i64 ma) ∧ W.cell? ⟨w.heap.size, 7, none⟩ = some (.int .i64 sh) ∧ W.cell? ⟨w.heap.size, 8, none⟩ = some (.int .i64 mf)) (exact cel9 Z0.out) (first
    | (go_at_call 6; refine (K1.out _ HB.out).mono ?_; rintro e w5 ⟨rfl, hb⟩; have HB := Lib.hid (below_then HB.out hb); have Z0 := Lib.hid (zero_still hb Z0.out); clear hb)
    | (go_at_call 7; refine (K2.out _).mono ?_; rintro e w5 ⟨rfl, hb⟩; have HB := Lib.hid (below_then HB.out hb); have Z0 := Lib.hid (zero_still hb Z0.out); clear hb)
    | (go_at_call 8; refine (K3.out _ HB.out).mono ?_; rintro e w5 ⟨rfl, hb⟩; have HB := Lib.hid (below_then HB.out hb); have Z0 := Lib.hid (zero_still hb Z0.out); clear hb)
    | (go_at_call 9; refine (K4.out _).mono ?_; rintro e w5 ⟨rfl, rfl⟩; skip)
    | (go_at_call 10; refine (CX.out _ HB.out).mono ?_; rintro e w5 ⟨rfl, hb⟩; have HB := Lib.hid (below_then HB.out hb); have Z0 := Lib.hid (zero_still hb Z0.out); clear hb))
  go_wp2_with fail
  go_ret
  exact ⟨rfl, HB.out⟩

theorem door_met (os : Os) (args : Array Value) : laidMetH Tryd.prog Rows.controlPrintsRow.laid ((World.laidAll Tryd.prog os Rows.controlPrintsRow.laid).forCall (fun _ _ => 0) ⟨#[], args, []⟩).memory := by
  rw [MakeChecks.laidMetH_plain _ _ _ (by kernel_rfl)]
  exact laidMet_laidAll _ (by kernel_rfl) (by kernel_rfl)

set_option maxRecDepth 100000 in
theorem lifted (os : Os) (started : os.Started) (H : Type) (enc : TypeId × Value → H) :
    ReturnsInHanded {} Tryd.checked os 3 .any (fun w args => (Rows.controlPrintsSpec.pre enc Tryd.prog Tryd.f3 [] false w args ∧ laidMetH Tryd.prog Rows.controlPrintsRow.laid w) ∧ sizedMet enc Tryd.prog Tryd.f3 (OpenSpec.ofChange Rows.controlPrintsSpec) false w args) (Rows.controlPrintsSpec.post enc Tryd.prog Tryd.f3 false true false false) := by
  refine returnsInHanded_of_change_and (C := Tryd.checked) (X := fun w _ => laidMetH Tryd.prog Rows.controlPrintsRow.laid w) (fun _ _ _ hh h => h.of_heap hh) own started (by kernel_rfl) Tryd.func3
    (ChangeSpec.witness_shaped (enc := enc) (C := Tryd.checked) (os := os) (X := fun w _ => laidMetH Tryd.prog Rows.controlPrintsRow.laid w) false (World.laidAll Tryd.prog os Rows.controlPrintsRow.laid) #[.agg #[.bool false, .bool false, .bool false, .bool false, .bool false, .bool false, .int .i64 0, .int .i64 0, .int .i64 0], .int .i64 0, .int .i64 0] 8 rfl (World.shaped_of_ZipB (by kernel_rfl) (by kernel_rfl)) (by kernel_rfl) (by kernel_rfl) (by kernel_rfl) (door_met os _)) ?_
  intro W base args ds gs before hval0 hW _ _ hL _
  have hval : ∀ (j : Nat) t v, Tryd.f3.params[j]? = some t → args[j]? = some v → Value.okWide Tryd.prog W .any base t v := hval0
  have hW' := hW
  obtain ⟨p, q, hA0, hV, rfl, hfz, hnd⟩ := hW
  have hA : DataW.TrodAll enc Tryd.prog W 0 (fun _ => true) true Tryd.f3.params.toList args.toList ds p := hA0
  rw [Tryd.params3] at hA hval
  obtain ⟨v0, vs0, d0, ds0, p0, q0, hargs, rfl, rfl, h0, r0⟩ := trodAll_cons hA
  obtain ⟨v1, vs1, d1, ds1, p1, q1, rfl, rfl, rfl, h1, r1⟩ := trodAll_cons r0
  obtain ⟨v2, vs2, d2, ds2, p2, q2, rfl, rfl, rfl, h2, r2⟩ := trodAll_cons r1
  obtain ⟨rfl, rfl, rfl⟩ := trodAll_nil r2
  obtain rfl : args = #[v0, v1, v2] := by cases args; simp_all
  obtain ⟨rfl, rfl⟩ := trodVars_none hV
  have k0 := h0
  have lt0 : ∀ x ∈ p0, x.block < W.heap.size := by obtain ⟨m, hm⟩ := k0; exact DataW.trod_lt m _ _ _ hm
  obtain ⟨a0, rfl, w0⟩ := CtB.of_trod Tryd.underlying23 (by kernel_rfl) (by kernel_rfl) Tryd.underlying4 Tryd.underlying4 Tryd.underlying4 Tryd.underlying4 Tryd.underlying4 Tryd.underlying4 Tryd.underlying3 Tryd.underlying3 Tryd.underlying3 (hval 0 23 v0 rfl rfl) h0
  obtain ⟨a1, rfl, rfl, rfl, w1⟩ := open_int Tryd.underlying3 (hval 1 3 v1 rfl rfl) h1
  obtain ⟨a2, rfl, rfl, rfl, w2⟩ := open_int Tryd.underlying3 (hval 2 3 v2 rfl rfl) h2
  clear hA0 hval0
  refine (walk a0 a1 a2 W w0 w1 w2 hL).mono fun e W' ⟨he, bel⟩ => ?_
  subst he
  exact ⟨_, rfl, _, _, _, [], _, [], hW', trodAll_mk1 (shut_bool Tryd.underlying4 _), (trodAll_cons_mk (Below.trod laidOut (by kernel_rfl) (of_decide_eq_true (by kernel_rfl)) k0 bel lt0) (trodAll_cons_mk (shut_int Tryd.underlying3 w1) (trodAll_cons_mk (shut_int Tryd.underlying3 w2) trodAll_mk0))), rfl, bel.frame _, fun h => by cases h⟩

theorem over : Rows.controlPrintsRow.holds Tryd.pinned (OpenSpec.ofChange Rows.controlPrintsSpec) :=
  OpenClaim.holds_of_wide 3 Tryd.f3 rfl rfl rfl rfl rfl rfl rfl ⟨rfl, rfl, rfl, rfl, rfl⟩ rfl rfl rfl rfl rfl (by kernel_rfl) Tryd.func3 (by kernel_rfl)
    (of_decide_eq_true (by kernel_rfl)) (by unfold Func.isWrapper; first | (rw [if_pos (by decide +kernel)]; kernel_rfl) | (rw [if_neg (by decide +kernel)]; exact ⟨rfl, rfl⟩))
    (fun os started H enc _ => lifted os started H enc)

theorem said : Rows.ControlPrintsSaid :=
  over

theorem plain (f : FuncId) (fn : Func) (hf : Tryd.pinned.checked.prog.funcNamed "depot/depotlaw13.ControlPrints" = some f) (hfn : Tryd.pinned.checked.prog.funcs[f]? = some fn) :
    false = Tryd.pinned.checked.prog.looks [] ∧ ∀ (j : Nat) t, fn.params[j]? = some t → Tryd.pinned.checked.prog.wantsStandIn t = false := by
  obtain rfl : f = 3 := Option.some.inj ((show Tryd.prog.funcNamed "depot/depotlaw13.ControlPrints" = some 3 by kernel_rfl).symm.trans hf) |>.symm
  obtain rfl : fn = Tryd.f3 := (Option.some.inj (Tryd.func3.symm.trans hfn)).symm
  refine ⟨by kernel_rfl, fun j t ht => ?_⟩
  rw [Tryd.params3] at ht
  · have hm := Array.mem_of_getElem? ht
    simp only [List.mem_toArray, List.mem_cons, List.not_mem_nil, or_false] at hm
    have all : Tryd.pinned.checked.prog.wantsStandIn 3 = false ∧ Tryd.pinned.checked.prog.wantsStandIn 23 = false := ⟨by kernel_rfl, by kernel_rfl⟩
    rcases hm with rfl | rfl | rfl
    all_goals first | with_reducible exact all.1 | with_reducible exact all.2

theorem proved : Rows.ControlPrintsCardSaid :=
  Claim7.holds_tied_plain_at .later [] _ _ _ _ said (fun _ h => by cases h) (by kernel_rfl) (fun _ h => by cases h) controlPrints_row_tie rfl ⟨rfl, rfl⟩ (by kernel_rfl) rfl plain (by kernel_rfl)
#print axioms proved
end Go.Proofs.YtmpiahahhkimkaaDoor.controlPrints
