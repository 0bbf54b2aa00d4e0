/-
  The law ControlParses (depotlaw13) returns true for every list of fields and leaves what it was given as it was. No condition.
-/
import Derived.Test.YtmpiahahhkimkaaGreatDoorRows
import Derived.WalkKit
import Derived.ProofKit
import Derived.OpenShut
import Derived.ShutString
import Derived.ChangeOld
import Derived.Below
import Derived.Test.YtmpiahahhkimkaaGreatDoorMrgA
import Derived.Test.YtmpiahahhkimkaaGreatDoorMrgB
import Derived.Test.YtmpiahahhkimkaaGreatDoorMrgC
import Derived.Test.YtmpiahahhkimkaaGreatDoorMrgD
import Derived.Test.YtmpiahahhkimkaaGreatDoorMrgE
import Derived.Test.YtmpiahahhkimkaaGreatDoorMrgF
import Derived.Test.YtmpiahahhkimkaaGreatDoorMrgG
import Derived.Test.YtmpiahahhkimkaaGreatDoorMrgH
import Derived.Test.YtmpiahahhkimkaaGreatDoorMrgI
import Derived.Test.YtmpiahahhkimkaaGreatDoorMrgJ
import Derived.Test.YtmpiahahhkimkaaGreatDoorMrgK
import Derived.Test.YtmpiahahhkimkaaGreatDoorMrgL
import Derived.Test.YtmpiahahhkimkaaGreatDoorMrgM
import Derived.Test.YtmpiahahhkimkaaGreatDoorMrgN
import Derived.Test.YtmpiahahhkimkaaGreatDoorMrgO
import Derived.Test.YtmpiahahhkimkaaGreatDoorMrgP
import Derived.Test.YtmpiahahhkimkaaGreatDoorMrgQ
import Derived.Test.YtmpiahahhkimkaaGreatDoorMrgR
import Derived.Test.YtmpiahahhkimkaaGreatDoorMrgS
import Derived.Test.YtmpiahahhkimkaaGreatDoorMrgT
import Derived.Test.YtmpiahahhkimkaaGreatDoorCards
import Derived.Test.YtmpiahahhkimkaaGreatDoorTie
import Derived.LaidMore
import Derived.Lib.LaidTab
import Derived.Stop.Joined
import Derived.Lay
namespace Go.Proofs.YtmpiahahhkimkaaGreatDoor.controlParses
open Go.ChangeShapes Go.WideShapes Go.ChangeAt Go.RowKit
open Go.ChangeMaps (open_string shut_string)
set_option linter.unusedVariables false

theorem own : ownKnob Tryz.prog.godebug = none := by kernel_rfl
theorem laidOut : laidOutB Tryz.prog = true := by kernel_rfl

set_option maxHeartbeats 8000000 in
set_option maxRecDepth 100000 in
theorem walk (a0 : Option Addr) (len0 cap0 : Nat) (z0 : List Fd) (w : World) (w0 : SlF w a0 len0 cap0 z0) (hL : laidMetH Tryz.prog Rows.controlParsesRow.laid w) :
    Calls Tryz.prog 3 #[.slice a0 len0 cap0] w fun e w' => e = .returned (.bool true) ∧ Below w.heap.size w w' := by
  have HT := Lib.hid (ctlPow hL)
  have cx := fun W (hW : Below w.heap.size w W) => ex13_any W (powL_kept HT.out hW)
  have CX := Lib.hid cx
  clear cx
  have hlen := w0.len
  have K1 := Lib.hid (rf_few a0 len0 cap0 70 1000 z0 w w0 (by omega))
  have K1 := Lib.hid (show Calls Tryz.prog 4 #[.slice a0 len0 cap0, .int .i64 70, .int .i64 1000] w (fun e w' => e = .returned (.bool (fewB z0 70 1000)) ∧ w = w') from K1.out)
  have hfy := fun h => few_yes (L := z0) (m := 70) (b := 1000) h
  generalize fewB z0 70 1000 = fb at *
  cases fb with
  | false =>
    go_enter Tryz.func3, Tryz.ntmps3
    go_wp2_with fail
    refine K1.out.mono ?_
    rintro e v1 ⟨rfl, rfl⟩
    go_wp2_with fail
    refine (CX.out _ (Below.refl _ _)).mono ?_
    rintro e v1 ⟨rfl, hb⟩
    go_wp2_with fail
    go_ret
    exact ⟨rfl, hb⟩
  | true =>
    obtain ⟨g1, g2⟩ := hfy rfl
    have hz : ∀ x ∈ z0, x.2.size ≤ 10000 := fun x hx => by have := (g2 x hx).2; omega
    have hbd : ∀ x ∈ z0, Bd x := fun x hx => by have := g2 x hx; exact ⟨by omega, by omega⟩
    have C1 := Lib.hid (fun W (hW : Below w.heap.size w W) => ctlP_any a0 len0 cap0 z0 W (w0.below hW) (by omega) hz hbd)
    have C2 := Lib.hid (fun W (hW : Below w.heap.size w W) => r_ctlParse a0 len0 cap0 z0 W (w0.below hW) (by omega) hz)
    have C3 := Lib.hid (fun W (hW : Below w.heap.size w W) => ctlA_any a0 len0 cap0 z0 W (w0.below hW) (by omega) hz hbd)
    have C4 := Lib.hid (fun W (hW : Below w.heap.size w W) => r_ctlAsked a0 len0 cap0 z0 W (w0.below hW) (by omega) hz)
    generalize ctP z0 = P at *
    generalize ctA z0 = Q at *
    obtain ⟨p0, p1, p2, p3, p4, p5, p6, p7, p8⟩ := P
    obtain ⟨q0, q1, q2, q3, q4, q5, q6, q7, q8⟩ := Q
    unfold ctC at *
    simp only at *
    have HB : Hid (Below w.heap.size w w) := Below.refl _ _
    clear hfy g1 g2 hz hbd
    go_enter Tryz.func3, Tryz.ntmps3
    go_wp2_with fail
    refine K1.out.mono ?_
    rintro e v1 ⟨rfl, rfl⟩
    go_wp2_with fail
    refine (C1.out _ HB.out).mono ?_
    rintro e v1 ⟨rfl, hb⟩
    have HB := Lib.hid (below_then HB.out hb)
    clear hb
    go_wp2_with fail
    refine (C2.out _ HB.out).mono ?_
    rintro e v2 ⟨rfl, hb⟩
    have HB := Lib.hid (below_then HB.out hb)
    clear hb
    go_wp2_with fail
    refine (C3.out _ HB.out).mono ?_
    rintro e v3 ⟨rfl, hb⟩
    have HB := Lib.hid (below_then HB.out hb)
    clear hb
    go_wp2_with fail
    refine (C4.out _ HB.out).mono ?_
    rintro e v4 ⟨rfl, hb⟩
    have HB := Lib.hid (below_then HB.out hb)
    clear hb
    go_wp2_with fail
    refine (CX.out _ HB.out).mono ?_
    rintro e v5 ⟨rfl, hb⟩
    go_wp2_with fail
    go_ret
    exact ⟨rfl, below_then HB.out hb⟩

theorem door_met (os : Os) (args : Array Value) : laidMetH Tryz.prog Rows.controlParsesRow.laid ((World.laidAll Tryz.prog os Rows.controlParsesRow.laid).forCall (fun _ _ => 0) ⟨#[], args, []⟩).memory := by
  rw [MakeChecks.laidMetH_plain _ _ _ (by kernel_rfl)]
  exact laidMet_laidAll _ (by kernel_rfl) (by kernel_rfl)

set_option maxRecDepth 100000 in
theorem lifted (os : Os) (started : os.Started) (H : Type) (enc : TypeId × Value → H) :
    ReturnsInHanded {} Tryz.checked os 3 .any (fun w args => (Rows.controlParsesSpec.pre enc Tryz.prog Tryz.f3 [] false w args ∧ laidMetH Tryz.prog Rows.controlParsesRow.laid w) ∧ sizedMet enc Tryz.prog Tryz.f3 (OpenSpec.ofChange Rows.controlParsesSpec) false w args) (Rows.controlParsesSpec.post enc Tryz.prog Tryz.f3 false true false false) := by
  refine returnsInHanded_of_change_and (C := Tryz.checked) (X := fun w _ => laidMetH Tryz.prog Rows.controlParsesRow.laid w) (fun _ _ _ hh h => h.of_heap hh) own started (by kernel_rfl) Tryz.func3
    (ChangeSpec.witness_shaped (enc := enc) (C := Tryz.checked) (os := os) (X := fun w _ => laidMetH Tryz.prog Rows.controlParsesRow.laid w) false (World.laidAll Tryz.prog os Rows.controlParsesRow.laid) #[.slice none 0 0] 8 rfl (World.shaped_of_ZipB (by kernel_rfl) (by kernel_rfl)) (by kernel_rfl) (by kernel_rfl) (by kernel_rfl) (door_met os _)) ?_
  intro W base args ds gs before hval0 hW _ _ hL _
  have hval : ∀ (j : Nat) t v, Tryz.f3.params[j]? = some t → args[j]? = some v → Value.okWide Tryz.prog W .any base t v := hval0
  have hW' := hW
  obtain ⟨p, q, hA0, hV, rfl, hfz, hnd⟩ := hW
  have hA : DataW.TrodAll enc Tryz.prog W 0 (fun _ => true) true Tryz.f3.params.toList args.toList ds p := hA0
  rw [Tryz.params3] at hA hval
  obtain ⟨v0, vs0, d0, ds0, p0, q0, hargs, rfl, rfl, h0, r0⟩ := trodAll_cons hA
  obtain ⟨rfl, rfl, rfl⟩ := trodAll_nil r0
  obtain rfl : args = #[v0] := by cases args; simp_all
  obtain ⟨rfl, rfl⟩ := trodVars_none hV
  obtain ⟨a0, len0, cap0, rfl⟩ := okWide_slice Tryz.underlying22 (hval 0 22 v0 rfl rfl)
  have k0 := h0
  have lt0 : ∀ x ∈ p0, x.block < W.heap.size := by obtain ⟨m, hm⟩ := k0; exact DataW.trod_lt m _ _ _ hm
  obtain ⟨z0, w0⟩ := SlF.of_trod Tryz.underlying22 Tryz.underlying30 (by kernel_rfl) rfl rfl (by kernel_rfl) (by kernel_rfl) Tryz.underlying9 Tryz.underlying9 h0
  clear hA0 hval0
  refine (walk a0 len0 cap0 z0 W w0 hL).mono fun e W' ⟨he, bel⟩ => ?_
  subst he
  exact ⟨_, rfl, _, _, _, [], _, [], hW', trodAll_mk1 (shut_bool Tryz.underlying4 _), (trodAll_cons_mk (Below.trod laidOut (by kernel_rfl) (of_decide_eq_true (by kernel_rfl)) k0 bel lt0) trodAll_mk0), rfl, bel.frame _, fun h => by cases h⟩

theorem over : Rows.controlParsesRow.holds Tryz.pinned (OpenSpec.ofChange Rows.controlParsesSpec) :=
  OpenClaim.holds_of_wide 3 Tryz.f3 rfl rfl rfl rfl rfl rfl rfl ⟨rfl, rfl, rfl, rfl, rfl⟩ rfl rfl rfl rfl rfl (by kernel_rfl) Tryz.func3 (by kernel_rfl)
    (of_decide_eq_true (by kernel_rfl)) (by unfold Func.isWrapper; first | (rw [if_pos (by decide +kernel)]; kernel_rfl) | (rw [if_neg (by decide +kernel)]; exact ⟨rfl, rfl⟩))
    (fun os started H enc _ => lifted os started H enc)

theorem said : Rows.ControlParsesSaid :=
  over

theorem plain (f : FuncId) (fn : Func) (hf : Tryz.pinned.checked.prog.funcNamed "depot/depotlaw13.ControlParses" = some f) (hfn : Tryz.pinned.checked.prog.funcs[f]? = some fn) :
    false = Tryz.pinned.checked.prog.looks [] ∧ ∀ (j : Nat) t, fn.params[j]? = some t → Tryz.pinned.checked.prog.wantsStandIn t = false := by
  obtain rfl : f = 3 := Option.some.inj ((show Tryz.prog.funcNamed "depot/depotlaw13.ControlParses" = some 3 by kernel_rfl).symm.trans hf) |>.symm
  obtain rfl : fn = Tryz.f3 := (Option.some.inj (Tryz.func3.symm.trans hfn)).symm
  refine ⟨by kernel_rfl, fun j t ht => ?_⟩
  rw [Tryz.params3] at ht
  · obtain rfl : t = 22 := by simpa using Array.mem_of_getElem? ht
    exact (show Tryz.prog.wantsStandIn 22 = false by kernel_rfl)

theorem proved : Rows.ControlParsesCardSaid :=
  Claim7.holds_tied_plain_at .later [] _ _ _ _ said (fun _ h => by cases h) (by kernel_rfl) (fun _ h => by cases h) controlParses_row_tie rfl ⟨rfl, rfl⟩ (by kernel_rfl) rfl plain (by kernel_rfl)
#print axioms proved
end Go.Proofs.YtmpiahahhkimkaaGreatDoor.controlParses
