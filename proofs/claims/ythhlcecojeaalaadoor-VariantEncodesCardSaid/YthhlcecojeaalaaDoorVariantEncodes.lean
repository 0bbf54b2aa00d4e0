/-
  The law VariantEncodes (depotlaw20) returns true for every list of stored replies and leaves what it was given as it was. No condition.
-/
import Derived.Test.YthhlcecojeaalaaDoorRows
import Derived.WalkKit
import Derived.ProofKit
import Derived.OpenShut
import Derived.ShutString
import Derived.ChangeOld
import Derived.Below
import Derived.Test.YthhlcecojeaalaaDoorMrgC
import Derived.Test.YthhlcecojeaalaaDoorMrgE
import Derived.Test.YthhlcecojeaalaaDoorMrgF
import Derived.Test.YthhlcecojeaalaaDoorMrgH
import Derived.Test.YthhlcecojeaalaaDoorMrgJ
import Derived.Test.YthhlcecojeaalaaDoorMrgK
import Derived.Test.YthhlcecojeaalaaDoorMrgL
import Derived.Test.YthhlcecojeaalaaDoorMrgW
import Derived.Test.YthhlcecojeaalaaDoorMrgZ
import Derived.Test.YthhlcecojeaalaaDoorMrgAD
import Derived.Test.YthhlcecojeaalaaDoorMrgAF
import Derived.Test.YthhlcecojeaalaaDoorMrgAG
import Derived.Test.YthhlcecojeaalaaDoorMrgAH
import Derived.Test.YthhlcecojeaalaaDoorMrgAI
import Derived.Test.YthhlcecojeaalaaDoorMrgAJ
import Derived.Test.YthhlcecojeaalaaDoorMrgAL
import Derived.Test.YthhlcecojeaalaaDoorMrgAN
import Derived.Test.YthhlcecojeaalaaDoorMrgAO
import Derived.Test.YthhlcecojeaalaaDoorMrgAQ
import Derived.Test.YthhlcecojeaalaaDoorMrgAR
import Derived.Test.YthhlcecojeaalaaDoorMrgAS
import Derived.Test.YthhlcecojeaalaaDoorMrgAT
import Derived.Test.YthhlcecojeaalaaDoorCards
import Derived.Test.YthhlcecojeaalaaDoorTie
import Derived.LaidMore
import Derived.Lib.LaidTab
import Derived.Stop.Joined
import Derived.Lay
set_option linter.unusedSimpArgs false
set_option linter.unusedVariables false
namespace Go.Proofs.YthhlcecojeaalaaDoor.variantEncodes
open Go.ChangeShapes Go.WideShapes Go.ChangeAt Go.RowKit
open Go.ChangeMaps (open_string shut_string)
set_option linter.unusedVariables false

theorem own : ownKnob Tryd.prog.godebug = none := by kernel_rfl
theorem laidOut : laidOutB Tryd.prog = true := by kernel_rfl

set_option maxHeartbeats 8000000 in
set_option maxRecDepth 100000 in
theorem walk (a0 : Option Addr) (len0 cap0 : Nat) (z0 : List Sd) (w : World) (w0 : SlD w a0 len0 cap0 z0 ∧ ∀ y ∈ z0, (Lit.int .i64 y.x.s.c).wf = true ∧ (Lit.int .i64 y.x.s.v).wf = true ∧ (Lit.int .i64 y.x.s.t).wf = true) (hL : laidMetH Tryd.prog Rows.variantEncodesRow.laid w) :
    Calls Tryd.prog 4 #[.slice a0 len0 cap0] w fun e w' => e = .returned (.bool true) ∧ Below w.heap.size w w' := by
  have HT := Lib.hid (vntTabs hL)
  clear hL
  replace w0 := w0.1
  have HB : Hid (Below w.heap.size w w) := Below.refl _ _
  have CX := Lib.hid (fun W (hW : Below w.heap.size w W) => ex20_any W (HT.out.kept hW))
  have K1 := Lib.hid (r_fewV 6 300 6 300 rfl rfl (by decide) a0 len0 cap0 z0 w w0)
  have hfy := fun h => fewV_yes (m := 6) (bd := 300) (L := z0) h
  generalize fewV 6 300 z0 = fb at *
  cases fb with
  | false =>
    clear hfy w0
    go_enter Tryd.func4, Tryd.ntmps4
    go_wp2_with fail
    refine K1.out.mono ?_
    rintro e v1 ⟨rfl, hb⟩
    have HB := Lib.hid hb
    clear hb
    go_wp2_with fail
    refine (CX.out _ HB.out).mono ?_
    rintro e w1 ⟨rfl, hb⟩
    go_wp2_with fail
    go_ret
    exact ⟨rfl, below_then HB.out hb⟩
  | true =>
    obtain ⟨h6, hok⟩ := hfy rfl
    have hlen := w0.len
    have C1 := Lib.hid (fun W (hW : Below w.heap.size w W) => vntE_any a0 len0 cap0 z0 W (w0.below hW) (by omega) (fun y hy => (few_ok (hok y hy) (by decide)).1) (HT.out.kept hW))
    have C2 := Lib.hid (fun W (hW : Below w.heap.size w W) => r_vencode a0 len0 cap0 z0 W (w0.below hW) (by omega) (fun y hy => (few_ok (hok y hy) (by decide)).1))
    generalize veB (z0.map fun z => z.x) = X at *
    generalize veE (z0.map fun z => z.x) = er at *
    have hee : (er == er) = true := by simp
    have hxx : (X == X) = true := by simp
    have C3 := Lib.hid (fun A B n m c d W (h : Sl8 W A n c X) (h' : Sl8 W B m d X) => wR_same A B n m c d X X W h h')
    rw [hxx] at C3
    unfold Bytes2 at C1 C2
    clear hfy h6 hok hlen hxx w0
    go_enter Tryd.func4, Tryd.ntmps4
    go_wp2_with fail
    refine K1.out.mono ?_
    rintro e v1 ⟨rfl, hb⟩
    have HB := Lib.hid hb
    clear hb
    go_wp2_with fail
    refine (C1.out _ HB.out).mono ?_
    rintro e w1 ⟨A1, n1, c1, rfl, hS, hb⟩
    have H1 := Lib.hid hS
    have HB := Lib.hid (below_then HB.out hb)
    clear hS hb C1
    go_wp2_with fail
    refine (C2.out _ HB.out).mono ?_
    rintro e w2 ⟨A2, n2, c2, rfl, hS, hb⟩
    have H2 := Lib.hid hS
    have H1 := Lib.hid (H1.out.below hb)
    have HB := Lib.hid (below_then HB.out hb)
    clear hS hb C2
    go_wp2_with fail
    refine (C3.out _ _ _ _ _ _ _ H1.out H2.out).mono ?_
    rintro e w3 ⟨rfl, rfl⟩
    clear C3
    go_wp2_with fail
    refine (CX.out _ HB.out).mono ?_
    rintro e w4 ⟨rfl, hb⟩
    go_wp2_with fail
    go_ret
    exact ⟨rfl, below_then HB.out hb⟩

theorem door_met (os : Os) (args : Array Value) : laidMetH Tryd.prog Rows.variantEncodesRow.laid ((World.laidAll Tryd.prog os Rows.variantEncodesRow.laid).forCall (fun _ _ => 0) ⟨#[], args, []⟩).memory := by
  rw [MakeChecks.laidMetH_plain _ _ _ (by kernel_rfl)]
  exact laidMet_laidAll _ (by kernel_rfl) (by kernel_rfl)

set_option maxRecDepth 100000 in
theorem lifted (os : Os) (started : os.Started) (H : Type) (enc : TypeId × Value → H) :
    ReturnsInHanded {} Tryd.checked os 4 .any (fun w args => (Rows.variantEncodesSpec.pre enc Tryd.prog Tryd.f4 [] false w args ∧ laidMetH Tryd.prog Rows.variantEncodesRow.laid w) ∧ sizedMet enc Tryd.prog Tryd.f4 (OpenSpec.ofChange Rows.variantEncodesSpec) false w args) (Rows.variantEncodesSpec.post enc Tryd.prog Tryd.f4 false true false false) := by
  refine returnsInHanded_of_change_and (C := Tryd.checked) (X := fun w _ => laidMetH Tryd.prog Rows.variantEncodesRow.laid w) (fun _ _ _ hh h => h.of_heap hh) own started (by kernel_rfl) Tryd.func4
    (ChangeSpec.witness_shaped (enc := enc) (C := Tryd.checked) (os := os) (X := fun w _ => laidMetH Tryd.prog Rows.variantEncodesRow.laid w) false (World.laidAll Tryd.prog os Rows.variantEncodesRow.laid) #[.slice none 0 0] 8 rfl (World.shaped_of_ZipB (by kernel_rfl) (by kernel_rfl)) (by kernel_rfl) (by kernel_rfl) (by kernel_rfl) (door_met os _)) ?_
  intro W base args ds gs before hval0 hW _ _ hL _
  have hval : ∀ (j : Nat) t v, Tryd.f4.params[j]? = some t → args[j]? = some v → Value.okWide Tryd.prog W .any base t v := hval0
  have hW' := hW
  obtain ⟨p, q, hA0, hV, rfl, hfz, hnd⟩ := hW
  have hA : DataW.TrodAll enc Tryd.prog W 0 (fun _ => true) true Tryd.f4.params.toList args.toList ds p := hA0
  rw [Tryd.params4] at hA hval
  obtain ⟨v0, vs0, d0, ds0, p0, q0, hargs, rfl, rfl, h0, r0⟩ := trodAll_cons hA
  obtain ⟨rfl, rfl, rfl⟩ := trodAll_nil r0
  obtain rfl : args = #[v0] := by cases args; simp_all
  obtain ⟨rfl, rfl⟩ := trodVars_none hV
  obtain ⟨a0, len0, cap0, rfl⟩ := okWide_slice Tryd.underlying22 (hval 0 22 v0 rfl rfl)
  have k0 := h0
  have lt0 : ∀ x ∈ p0, x.block < W.heap.size := by obtain ⟨m, hm⟩ := k0; exact DataW.trod_lt m _ _ _ hm
  obtain ⟨z0, w0⟩ := SlD.of_trod Tryd.underlying22 Tryd.underlying28 (by kernel_rfl) rfl rfl rfl (by kernel_rfl) (by kernel_rfl) (by kernel_rfl) Tryd.underlying25 Tryd.underlying3 Tryd.underlying26 rfl rfl rfl rfl rfl (by kernel_rfl) (by kernel_rfl) (by kernel_rfl) (by kernel_rfl) (by kernel_rfl) Tryd.underlying3 Tryd.underlying9 Tryd.underlying3 Tryd.underlying23 Tryd.underlying9 Tryd.underlying62 (by kernel_rfl) rfl rfl (by kernel_rfl) (by kernel_rfl) Tryd.underlying9 Tryd.underlying9 Tryd.underlying53 (by kernel_rfl) rfl rfl rfl (by kernel_rfl) (by kernel_rfl) (by kernel_rfl) Tryd.underlying9 Tryd.underlying4 Tryd.underlying9 h0
  clear hA0 hval0
  refine (walk a0 len0 cap0 z0 W w0 hL).mono fun e W' ⟨he, bel⟩ => ?_
  subst he
  exact ⟨_, rfl, _, _, _, [], _, [], hW', trodAll_mk1 (shut_bool Tryd.underlying4 _), (trodAll_cons_mk (Below.trod laidOut (by kernel_rfl) (of_decide_eq_true (by kernel_rfl)) k0 bel lt0) trodAll_mk0), rfl, bel.frame _, fun h => by cases h⟩

theorem over : Rows.variantEncodesRow.holds Tryd.pinned (OpenSpec.ofChange Rows.variantEncodesSpec) :=
  OpenClaim.holds_of_wide 4 Tryd.f4 rfl rfl rfl rfl rfl rfl rfl ⟨rfl, rfl, rfl, rfl, rfl⟩ rfl rfl rfl rfl rfl (by kernel_rfl) Tryd.func4 (by kernel_rfl)
    (of_decide_eq_true (by kernel_rfl)) (by unfold Func.isWrapper; first | (rw [if_pos (by decide +kernel)]; kernel_rfl) | (rw [if_neg (by decide +kernel)]; exact ⟨rfl, rfl⟩))
    (fun os started H enc _ => lifted os started H enc)

theorem said : Rows.VariantEncodesSaid :=
  over

theorem plain (f : FuncId) (fn : Func) (hf : Tryd.pinned.checked.prog.funcNamed "depot/depotlaw20.VariantEncodes" = some f) (hfn : Tryd.pinned.checked.prog.funcs[f]? = some fn) :
    false = Tryd.pinned.checked.prog.looks [] ∧ ∀ (j : Nat) t, fn.params[j]? = some t → Tryd.pinned.checked.prog.wantsStandIn t = false := by
  obtain rfl : f = 4 := Option.some.inj ((show Tryd.prog.funcNamed "depot/depotlaw20.VariantEncodes" = some 4 by kernel_rfl).symm.trans hf) |>.symm
  obtain rfl : fn = Tryd.f4 := (Option.some.inj (Tryd.func4.symm.trans hfn)).symm
  refine ⟨by kernel_rfl, fun j t ht => ?_⟩
  rw [Tryd.params4] at ht
  · obtain rfl : t = 22 := by simpa using Array.mem_of_getElem? ht
    exact (show Tryd.prog.wantsStandIn 22 = false by kernel_rfl)

theorem proved : Rows.VariantEncodesCardSaid :=
  Claim7.holds_tied_plain_at .later [] _ _ _ _ said (fun _ h => by cases h) (by kernel_rfl) (fun _ h => by cases h) variantEncodes_row_tie rfl ⟨rfl, rfl⟩ (by kernel_rfl) rfl plain (by kernel_rfl)
#print axioms proved
end Go.Proofs.YthhlcecojeaalaaDoor.variantEncodes
