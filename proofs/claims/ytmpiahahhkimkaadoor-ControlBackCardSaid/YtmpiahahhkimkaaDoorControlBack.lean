/-
  The law ControlBack (depotlaw13) returns true for every Control and leaves what it was given as it was. No condition.
-/
import Derived.Test.YtmpiahahhkimkaaDoorRows
import Derived.WalkKit
import Derived.ProofKit
import Derived.OpenShut
import Derived.ShutString
import Derived.ChangeOld
import Derived.Below
import Derived.Test.YtmpiahahhkimkaaDoorMrgA
import Derived.Test.YtmpiahahhkimkaaDoorMrgB
import Derived.Test.YtmpiahahhkimkaaDoorMrgC
import Derived.Test.YtmpiahahhkimkaaDoorMrgD
import Derived.Test.YtmpiahahhkimkaaDoorMrgE
import Derived.Test.YtmpiahahhkimkaaDoorMrgF
import Derived.Test.YtmpiahahhkimkaaDoorMrgG
import Derived.Test.YtmpiahahhkimkaaDoorMrgH
import Derived.Test.YtmpiahahhkimkaaDoorMrgI
import Derived.Test.YtmpiahahhkimkaaDoorMrgJ
import Derived.Test.YtmpiahahhkimkaaDoorMrgK
import Derived.Test.YtmpiahahhkimkaaDoorMrgL
import Derived.Test.YtmpiahahhkimkaaDoorMrgM
import Derived.Test.YtmpiahahhkimkaaDoorMrgN
import Derived.Test.YtmpiahahhkimkaaDoorMrgO
import Derived.Test.YtmpiahahhkimkaaDoorMrgP
import Derived.Test.YtmpiahahhkimkaaDoorMrgQ
import Derived.Test.YtmpiahahhkimkaaDoorMrgR
import Derived.Test.YtmpiahahhkimkaaDoorMrgS
import Derived.Test.YtmpiahahhkimkaaDoorMrgT
import Derived.Test.YtmpiahahhkimkaaDoorMrgU
import Derived.Test.YtmpiahahhkimkaaDoorMrgV
import Derived.Deep.RegionHeld3
import Derived.Test.YtmpiahahhkimkaaDoorCards
import Derived.Test.YtmpiahahhkimkaaDoorTie
import Derived.LaidMore
import Derived.Lib.LaidTab
import Derived.Stop.Joined
import Derived.Lay
namespace Go.Proofs.YtmpiahahhkimkaaDoor.controlBack
open Go.ChangeShapes Go.WideShapes Go.ChangeAt Go.RowKit
open Go.ChangeMaps (open_string shut_string)
set_option linter.unusedVariables false

theorem own : ownKnob Tryd.prog.godebug = none := by kernel_rfl
theorem laidOut : laidOutB Tryd.prog = true := by kernel_rfl

set_option maxHeartbeats 8000000 in
set_option maxRecDepth 100000 in
theorem walk (a0 : Ctl) (w : World) (w0 : CtB a0) (hL : laidMetH Tryd.prog Rows.controlBackRow.laid w) :
    Calls Tryd.prog 4 #[.agg (ctC a0)] w fun e w' => e = .returned (.bool true) ∧ Below w.heap.size w w' := by
  have HT := Lib.hid (ctlPow hL)
  have CX := Lib.hid (fun W (hW : Below w.heap.size w W) => ex13_any W (powL_kept HT.out hW))
  have K1 := Lib.hid (fun W (hW : Below w.heap.size w W) => ctlS_any a0 w0 W (powL_kept HT.out hW))
  have K2 := fun (h : CtR a0) W => one_any (ctS a0) (by have := ctS_size a0 h; unfold maxLen; omega) W
  have K3 := fun (h : CtR a0) A W (hF : SlF W A 1 1 [(ccS, ctS a0)]) => ctlP_any A 1 1 _ W hF (by omega) (fun x hx => by rw [List.mem_singleton] at hx; subst hx; have := ctS_size a0 h; dsimp only; omega) (fun x hx => by rw [List.mem_singleton] at hx; subst hx; have := ctS_size a0 h; exact ⟨by dsimp only; decide, by dsimp only; omega⟩)
  have K4 := fun (h : CtR a0) A W (hF : SlF W A 1 1 [(ccS, ctS a0)]) => ctlA_any A 1 1 _ W hF (by omega) (fun x hx => by rw [List.mem_singleton] at hx; subst hx; have := ctS_size a0 h; dsimp only; omega) (fun x hx => by rw [List.mem_singleton] at hx; subst hx; have := ctS_size a0 h; exact ⟨by dsimp only; decide, by dsimp only; omega⟩)
  have hbk := fun (h : CtR a0) => ct_back a0 h
  have K3 := Lib.hid (fun (h : CtR a0) A W (hF : SlF W A 1 1 [(ccS, ctS a0)]) => by have h2 := K3 h A W hF; rw [(hbk h).1] at h2; exact h2)
  have K4 := Lib.hid (fun (h : CtR a0) A W (hF : SlF W A 1 1 [(ccS, ctS a0)]) => by have h2 := K4 h A W hF; rw [(hbk h).2] at h2; exact h2)
  have K2 := Lib.hid K2
  clear hbk w0
  generalize hPS : ctS a0 = PS at *
  clear hPS
  unfold ctC at *
  obtain ⟨ns, nc, pv, pu, mc, oi, ma, sh, mf⟩ := a0
  unfold CtR at *
  simp only at *
  have Z : (w.alloc (.cells #[.bool ns, .bool nc, .bool pv, .bool pu, .bool mc, .bool oi, .int .i64 ma, .int .i64 sh, .int .i64 mf] 23)).heap[w.heap.size]? = some (.cells #[.bool ns, .bool nc, .bool pv, .bool pu, .bool mc, .bool oi, .int .i64 ma, .int .i64 sh, .int .i64 mf] 23 (0, 0)) := heap_alloc_new w _
  obtain ⟨z0, z1, z2, z3, z4, z5, z6, z7, z8⟩ := cel9 Z
  have HB : Hid (Below w.heap.size w (w.alloc (.cells #[.bool ns, .bool nc, .bool pv, .bool pu, .bool mc, .bool oi, .int .i64 ma, .int .i64 sh, .int .i64 mf] 23))) := (Below.refl _ _).alloc (Nat.le_refl _) _
  have ZA : Hid ((w.alloc (.cells #[.bool ns, .bool nc, .bool pv, .bool pu, .bool mc, .bool oi, .int .i64 ma, .int .i64 sh, .int .i64 mf] 23)).heap[w.heap.size]? = some (.cells #[.bool ns, .bool nc, .bool pv, .bool pu, .bool mc, .bool oi, .int .i64 ma, .int .i64 sh, .int .i64 mf] 23 (0, 0))) := Z
  clear Z
  by_cases q0 : ma < -1
  · clear ZA K1 K2 K3 K4
    go_enter Tryd.func4, Tryd.ntmps4
    go_wp2_with fail
    refine (CX.out _ HB.out).mono ?_
    rintro e w5 ⟨rfl, hb⟩
    go_wp2_with fail
    go_ret
    exact ⟨rfl, below_then HB.out hb⟩
  by_cases q1 : sh < -1
  · clear ZA K1 K2 K3 K4
    go_enter Tryd.func4, Tryd.ntmps4
    go_wp2_with fail
    refine (CX.out _ HB.out).mono ?_
    rintro e w5 ⟨rfl, hb⟩
    go_wp2_with fail
    go_ret
    exact ⟨rfl, below_then HB.out hb⟩
  by_cases q2 : mf < -1
  · clear ZA K1 K2 K3 K4
    go_enter Tryd.func4, Tryd.ntmps4
    go_wp2_with fail
    refine (CX.out _ HB.out).mono ?_
    rintro e w5 ⟨rfl, hb⟩
    go_wp2_with fail
    go_ret
    exact ⟨rfl, below_then HB.out hb⟩
  by_cases q3 : 2147483648 < ma
  · clear ZA K1 K2 K3 K4
    go_enter Tryd.func4, Tryd.ntmps4
    go_wp2_with fail
    refine (CX.out _ HB.out).mono ?_
    rintro e w5 ⟨rfl, hb⟩
    go_wp2_with fail
    go_ret
    exact ⟨rfl, below_then HB.out hb⟩
  by_cases q4 : 2147483648 < sh
  · clear ZA K1 K2 K3 K4
    go_enter Tryd.func4, Tryd.ntmps4
    go_wp2_with fail
    refine (CX.out _ HB.out).mono ?_
    rintro e w5 ⟨rfl, hb⟩
    go_wp2_with fail
    go_ret
    exact ⟨rfl, below_then HB.out hb⟩
  by_cases q5 : 2147483648 < mf
  · clear ZA K1 K2 K3 K4
    go_enter Tryd.func4, Tryd.ntmps4
    go_wp2_with fail
    refine (CX.out _ HB.out).mono ?_
    rintro e w5 ⟨rfl, hb⟩
    go_wp2_with fail
    go_ret
    exact ⟨rfl, below_then HB.out hb⟩
  have hR : (-1 ≤ ma ∧ ma ≤ 2147483648) ∧ (-1 ≤ sh ∧ sh ≤ 2147483648) ∧ (-1 ≤ mf ∧ mf ≤ 2147483648) := by omega
  have K2 := Lib.hid (fun W => K2.out hR W)
  have K3 := Lib.hid (fun A W hF => K3.out hR A W hF)
  have K4 := Lib.hid (fun A W hF => K4.out hR A W hF)
  have Z0 : Hid ((w.alloc (.cells #[.bool ns, .bool nc, .bool pv, .bool pu, .bool mc, .bool oi, .int .i64 ma, .int .i64 sh, .int .i64 mf] 23)).drew.heap[w.heap.size]? = some (.cells #[.bool ns, .bool nc, .bool pv, .bool pu, .bool mc, .bool oi, .int .i64 ma, .int .i64 sh, .int .i64 mf] 23 (0, 0))) := ZA.out
  have HBd := Lib.hid HB.out.drew
  clear ZA hR
  go_enter Tryd.func4, Tryd.ntmps4
  go_wp2_with fail
  clear z0 z1 z2 z3 z4 z5 z6 z7 z8 HB
  have HB := HBd
  clear HBd
  go_region_held3 (fun W => W.cell? ⟨w.heap.size, 0, none⟩ = some (.bool ns) ∧ W.cell? ⟨w.heap.size, 1, none⟩ = some (.bool nc) ∧ W.cell? ⟨w.heap.size, 2, none⟩ = some (.bool pv) ∧ W.cell? ⟨w.heap.size, 3, none⟩ = some (.bool pu) ∧ W.cell? ⟨w.heap.size, 4, none⟩ = some (.bool mc) ∧ W.cell? ⟨w.heap.size, 5, none⟩ = some (.bool oi) ∧ W.cell? ⟨w.heap.size, 6, none⟩ = some (.int .i64 ma) ∧ W.cell? ⟨w.heap.size, 7, none⟩ = some (.int .i64 sh) ∧ W.cell? ⟨w.heap.size, 8, none⟩ = some (.int .i64 mf)) (exact cel9 Z0.out) (first
    | (go_at_call 6; refine (K1.out _ HB.out).mono ?_; rintro e w5 ⟨rfl, hb⟩; have HB := Lib.hid (below_then HB.out hb); have Z0 := Lib.hid (zero_still hb Z0.out); clear hb)
    | (go_at_call 12; refine (K2.out _).mono ?_; rintro e w5 ⟨rfl, hF, hb⟩; have HB := Lib.hid (below_then HB.out hb); have Z0 := Lib.hid (zero_still hb Z0.out); have HF := Lib.hid hF; clear hb hF)
    | (go_at_call 11; refine (K3.out _ _ HF.out).mono ?_; rintro e w5 ⟨rfl, hb⟩; have HB := Lib.hid (below_then HB.out hb); have Z0 := Lib.hid (zero_still hb Z0.out); clear hb)
    | (go_at_call 13; refine (K4.out _ _ HF.out).mono ?_; rintro e w5 ⟨rfl, hb⟩; have HB := Lib.hid (below_then HB.out hb); have Z0 := Lib.hid (zero_still hb Z0.out); clear hb)
    | (go_at_call 10; refine (CX.out _ HB.out).mono ?_; rintro e w5 ⟨rfl, hb⟩; have HB := Lib.hid (below_then HB.out hb); have Z0 := Lib.hid (zero_still hb Z0.out); clear hb))
  go_wp2_with fail
  go_ret
  exact ⟨rfl, HB.out⟩

theorem door_met (os : Os) (args : Array Value) : laidMetH Tryd.prog Rows.controlBackRow.laid ((World.laidAll Tryd.prog os Rows.controlBackRow.laid).forCall (fun _ _ => 0) ⟨#[], args, []⟩).memory := by
  rw [MakeChecks.laidMetH_plain _ _ _ (by kernel_rfl)]
  exact laidMet_laidAll _ (by kernel_rfl) (by kernel_rfl)

set_option maxRecDepth 100000 in
theorem lifted (os : Os) (started : os.Started) (H : Type) (enc : TypeId × Value → H) :
    ReturnsInHanded {} Tryd.checked os 4 .any (fun w args => (Rows.controlBackSpec.pre enc Tryd.prog Tryd.f4 [] false w args ∧ laidMetH Tryd.prog Rows.controlBackRow.laid w) ∧ sizedMet enc Tryd.prog Tryd.f4 (OpenSpec.ofChange Rows.controlBackSpec) false w args) (Rows.controlBackSpec.post enc Tryd.prog Tryd.f4 false true false false) := by
  refine returnsInHanded_of_change_and (C := Tryd.checked) (X := fun w _ => laidMetH Tryd.prog Rows.controlBackRow.laid w) (fun _ _ _ hh h => h.of_heap hh) own started (by kernel_rfl) Tryd.func4
    (ChangeSpec.witness_shaped (enc := enc) (C := Tryd.checked) (os := os) (X := fun w _ => laidMetH Tryd.prog Rows.controlBackRow.laid w) false (World.laidAll Tryd.prog os Rows.controlBackRow.laid) #[.agg #[.bool false, .bool false, .bool false, .bool false, .bool false, .bool false, .int .i64 0, .int .i64 0, .int .i64 0]] 8 rfl (World.shaped_of_ZipB (by kernel_rfl) (by kernel_rfl)) (by kernel_rfl) (by kernel_rfl) (by kernel_rfl) (door_met os _)) ?_
  intro W base args ds gs before hval0 hW _ _ hL _
  have hval : ∀ (j : Nat) t v, Tryd.f4.params[j]? = some t → args[j]? = some v → Value.okWide Tryd.prog W .any base t v := hval0
  have hW' := hW
  obtain ⟨p, q, hA0, hV, rfl, hfz, hnd⟩ := hW
  have hA : DataW.TrodAll enc Tryd.prog W 0 (fun _ => true) true Tryd.f4.params.toList args.toList ds p := hA0
  rw [Tryd.params4] at hA hval
  obtain ⟨v0, vs0, d0, ds0, p0, q0, hargs, rfl, rfl, h0, r0⟩ := trodAll_cons hA
  obtain ⟨rfl, rfl, rfl⟩ := trodAll_nil r0
  obtain rfl : args = #[v0] := by cases args; simp_all
  obtain ⟨rfl, rfl⟩ := trodVars_none hV
  have k0 := h0
  have lt0 : ∀ x ∈ p0, x.block < W.heap.size := by obtain ⟨m, hm⟩ := k0; exact DataW.trod_lt m _ _ _ hm
  obtain ⟨a0, rfl, w0⟩ := CtB.of_trod Tryd.underlying23 (by kernel_rfl) (by kernel_rfl) Tryd.underlying4 Tryd.underlying4 Tryd.underlying4 Tryd.underlying4 Tryd.underlying4 Tryd.underlying4 Tryd.underlying3 Tryd.underlying3 Tryd.underlying3 (hval 0 23 v0 rfl rfl) h0
  clear hA0 hval0
  refine (walk a0 W w0 hL).mono fun e W' ⟨he, bel⟩ => ?_
  subst he
  exact ⟨_, rfl, _, _, _, [], _, [], hW', trodAll_mk1 (shut_bool Tryd.underlying4 _), (trodAll_cons_mk (Below.trod laidOut (by kernel_rfl) (of_decide_eq_true (by kernel_rfl)) k0 bel lt0) trodAll_mk0), rfl, bel.frame _, fun h => by cases h⟩

theorem over : Rows.controlBackRow.holds Tryd.pinned (OpenSpec.ofChange Rows.controlBackSpec) :=
  OpenClaim.holds_of_wide 4 Tryd.f4 rfl rfl rfl rfl rfl rfl rfl ⟨rfl, rfl, rfl, rfl, rfl⟩ rfl rfl rfl rfl rfl (by kernel_rfl) Tryd.func4 (by kernel_rfl)
    (of_decide_eq_true (by kernel_rfl)) (by unfold Func.isWrapper; first | (rw [if_pos (by decide +kernel)]; kernel_rfl) | (rw [if_neg (by decide +kernel)]; exact ⟨rfl, rfl⟩))
    (fun os started H enc _ => lifted os started H enc)

theorem said : Rows.ControlBackSaid :=
  over

theorem plain (f : FuncId) (fn : Func) (hf : Tryd.pinned.checked.prog.funcNamed "depot/depotlaw13.ControlBack" = some f) (hfn : Tryd.pinned.checked.prog.funcs[f]? = some fn) :
    false = Tryd.pinned.checked.prog.looks [] ∧ ∀ (j : Nat) t, fn.params[j]? = some t → Tryd.pinned.checked.prog.wantsStandIn t = false := by
  obtain rfl : f = 4 := Option.some.inj ((show Tryd.prog.funcNamed "depot/depotlaw13.ControlBack" = some 4 by kernel_rfl).symm.trans hf) |>.symm
  obtain rfl : fn = Tryd.f4 := (Option.some.inj (Tryd.func4.symm.trans hfn)).symm
  refine ⟨by kernel_rfl, fun j t ht => ?_⟩
  rw [Tryd.params4] at ht
  · obtain rfl : t = 23 := by simpa using Array.mem_of_getElem? ht
    exact (show Tryd.prog.wantsStandIn 23 = false by kernel_rfl)

theorem proved : Rows.ControlBackCardSaid :=
  Claim7.holds_tied_plain_at .later [] _ _ _ _ said (fun _ h => by cases h) (by kernel_rfl) (fun _ h => by cases h) controlBack_row_tie rfl ⟨rfl, rfl⟩ (by kernel_rfl) rfl plain (by kernel_rfl)
#print axioms proved
end Go.Proofs.YtmpiahahhkimkaaDoor.controlBack
