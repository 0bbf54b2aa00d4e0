/-
  The law TargetAny returns true for every target and leaves what it was given as it was. No condition.
-/
import Derived.Test.YtcmppmbieebkpaaDoorRows
import Derived.WalkKit
import Derived.ProofKit
import Derived.OpenShut
import Derived.ShutString
import Derived.ChangeOld
import Derived.Below
import Derived.Test.YtcmppmbieebkpaaDoorTarX
import Derived.Test.YtcmppmbieebkpaaDoorTgtL
import Derived.Lib.SmallJoins
import Derived.Test.YtcmppmbieebkpaaDoorCards
import Derived.Test.YtcmppmbieebkpaaDoorTie
import Derived.LaidMore
import Derived.Lib.LaidTab
import Derived.Stop.Joined
import Derived.Lay
namespace Go.Proofs.YtcmppmbieebkpaaDoor.targetAny
open Go.ChangeShapes Go.WideShapes Go.ChangeAt Go.RowKit
open Go.ChangeMaps (open_string shut_string)
set_option linter.unusedVariables false

theorem own : ownKnob Tryd.prog.godebug = none := by kernel_rfl
theorem laidOut : laidOutB Tryd.prog = true := by kernel_rfl

set_option maxHeartbeats 8000000 in
set_option maxRecDepth 100000 in
theorem walk (a0 : ByteArray) (b0 : Int) (c0 : ByteArray) (w : World) (w0 : a0.size ≤ maxLen ∧ (Lit.int .i64 b0).wf = true ∧ c0.size ≤ maxLen) (hL : laidMetH Tryd.prog Rows.targetAnyRow.laid w) :
    Calls Tryd.prog 3 #[.agg #[.string a0, .int .i64 b0, .string c0]] w fun e w' => e = .returned (.bool true) ∧ Below w.heap.size w w' := by
  have HT := Lib.hid (powTabs hL)
  clear hL
  have hq := wf_i64 w0.2.1
  have hb0 : Below w.heap.size w (w.alloc (.cells #[.string a0, .int .i64 b0, .string c0] 23)) := (Below.refl _ _).alloc (Nat.le_refl _) _
  have hu0 := heap_alloc_new w (.cells #[.string a0, .int .i64 b0, .string c0] 23)
  have HA := Lib.hid hu0
  obtain ⟨r0, r1, r2⟩ := uri_full hu0
  clear hu0
  by_cases k0 : (1000 : Int) < (a0.size : Int)
  · go_enter Tryd.func3, Tryd.ntmps3
    go_wp2_with fail
    refine (ex_any _ (pow_kept HT.out (by first | with_reducible exact hb | with_reducible exact hb2 | exact hb.alloc hb.size _ | with_reducible exact hb0 | exact Below.refl _ _ | exact (Below.refl _ _).alloc (Nat.le_refl _) _))).mono ?_
    rintro e v2 ⟨rfl, hb2⟩
    have hb2 := below_then hb0 hb2
    go_wp2_with fail
    go_ret
    exact ⟨rfl, hb2⟩
  by_cases k1 : (1000 : Int) < (c0.size : Int)
  · go_enter Tryd.func3, Tryd.ntmps3
    go_wp2_with fail
    refine (ex_any _ (pow_kept HT.out (by first | with_reducible exact hb | with_reducible exact hb2 | exact hb.alloc hb.size _ | with_reducible exact hb0 | exact Below.refl _ _ | exact (Below.refl _ _).alloc (Nat.le_refl _) _))).mono ?_
    rintro e v2 ⟨rfl, hb2⟩
    have hb2 := below_then hb0 hb2
    go_wp2_with fail
    go_ret
    exact ⟨rfl, hb2⟩
  · have c1 := fun W (hb : Below w.heap.size w W) => key8_any a0 b0 c0 (by omega) (by omega) (by omega) W (pow_kept HT.out hb)
    have c2 := fun W => r_key8 a0 b0 c0 (by omega) (by omega) (by omega) W
    have c3 := fun W (hb : Below w.heap.size w W) => text8_any a0 b0 c0 (by omega) (by omega) (by omega) W (pow_kept HT.out hb)
    have c4 := fun W => r_text8 a0 b0 c0 (by omega) (by omega) (by omega) W
    unfold uriV at *
    generalize textS a0 b0 c0 = T at *
    generalize keyS a0 b0 c0 = K at *
    generalize keyN a0 b0 c0 = KE at *
    have C1 := Lib.hid c1
    have C2 := Lib.hid c2
    have C3 := Lib.hid c3
    have C4 := Lib.hid c4
    clear c1 c2 c3 c4 hq
    go_enter Tryd.func3, Tryd.ntmps3
    go_wp2_with fail
    refine (C1.out _ (by first | with_reducible exact hb | with_reducible exact hb2 | exact hb.alloc hb.size _ | with_reducible exact hb0 | exact Below.refl _ _ | exact (Below.refl _ _).alloc (Nat.le_refl _) _)).mono ?_
    rintro e v1 ⟨rfl, hb'⟩
    have HA := Lib.hid (still_zero hb' HA.out)
    have hb := below_then hb0 hb'
    clear hb' r0 r1 r2 hb0
    obtain ⟨r0, r1, r2⟩ := uri_full HA.out
    go_wp2_with fail
    refine (C2.out _).mono ?_
    rintro e v2 ⟨rfl, hb'⟩
    have HA := Lib.hid (still_zero hb' HA.out)
    have hb := below_then hb hb'
    clear hb' r0 r1 r2
    obtain ⟨r0, r1, r2⟩ := uri_full HA.out
    go_wp2_with fail
    have hb := hb.drew
    have e6 : v2.drew.heap = v2.heap := rfl
    have HA := Lib.hid (Eq.trans (congrArg (fun A : Array Obj => A[_]?) e6) HA.out)
    clear e6
    go_region_held3 (fun W => W.cell? ⟨w.heap.size, 0, none⟩ = some (.string a0) ∧ W.cell? ⟨w.heap.size, 1, none⟩ = some (.int .i64 b0) ∧ W.cell? ⟨w.heap.size, 2, none⟩ = some (.string c0)) (exact uri_full HA.out) (first
      | (go_at_call 9; refine (C3.out _ (by first | with_reducible exact hb | with_reducible exact hb2 | exact hb.alloc hb.size _ | with_reducible exact hb0 | exact Below.refl _ _ | exact (Below.refl _ _).alloc (Nat.le_refl _) _)).mono ?_; rintro e v7 ⟨rfl, hb'⟩; have HA := Lib.hid (still_zero hb' HA.out); have hb := below_then hb hb'; clear hb')
      | (go_at_call 10; refine (C4.out _).mono ?_; rintro e v8 ⟨rfl, hb'⟩; have HA := Lib.hid (still_zero hb' HA.out); have hb := below_then hb hb'; clear hb')
      | (go_at_call 6; refine (ex_any _ (pow_kept HT.out (by first | with_reducible exact hb | with_reducible exact hb2 | exact hb.alloc hb.size _ | with_reducible exact hb0 | exact Below.refl _ _ | exact (Below.refl _ _).alloc (Nat.le_refl _) _))).mono ?_; rintro e v9 ⟨rfl, hb'⟩; have HA := Lib.hid (still_zero hb' HA.out); have hb := below_then hb hb'; clear hb'))
    go_wp2_with fail
    go_ret
    exact ⟨rfl, hb⟩

theorem door_met (os : Os) (args : Array Value) : laidMetH Tryd.prog Rows.targetAnyRow.laid ((World.laidAll Tryd.prog os Rows.targetAnyRow.laid).forCall (fun _ _ => 0) ⟨#[], args, []⟩).memory := by
  rw [MakeChecks.laidMetH_plain _ _ _ (by kernel_rfl)]
  exact laidMet_laidAll _ (by kernel_rfl) (by kernel_rfl)

set_option maxRecDepth 100000 in
theorem lifted (os : Os) (started : os.Started) (H : Type) (enc : TypeId × Value → H) :
    ReturnsInHanded {} Tryd.checked os 3 .any (fun w args => (Rows.targetAnySpec.pre enc Tryd.prog Tryd.f3 [] false w args ∧ laidMetH Tryd.prog Rows.targetAnyRow.laid w) ∧ sizedMet enc Tryd.prog Tryd.f3 (OpenSpec.ofChange Rows.targetAnySpec) false w args) (Rows.targetAnySpec.post enc Tryd.prog Tryd.f3 false true false false) := by
  refine returnsInHanded_of_change_and (C := Tryd.checked) (X := fun w _ => laidMetH Tryd.prog Rows.targetAnyRow.laid w) (fun _ _ _ hh h => h.of_heap hh) own started (by kernel_rfl) Tryd.func3
    (ChangeSpec.witness_shaped (enc := enc) (C := Tryd.checked) (os := os) (X := fun w _ => laidMetH Tryd.prog Rows.targetAnyRow.laid w) false (World.laidAll Tryd.prog os Rows.targetAnyRow.laid) #[.agg #[.string ByteArray.empty, .int .i64 0, .string ByteArray.empty]] 8 rfl (World.shaped_of_ZipB (by kernel_rfl) (by kernel_rfl)) (by kernel_rfl) (by kernel_rfl) (by kernel_rfl) (door_met os _)) ?_
  intro W base args ds gs before hval0 hW _ _ hL _
  have hval : ∀ (j : Nat) t v, Tryd.f3.params[j]? = some t → args[j]? = some v → Value.okWide Tryd.prog W .any base t v := hval0
  have hW' := hW
  obtain ⟨p, q, hA0, hV, rfl, hfz, hnd⟩ := hW
  have hA : DataW.TrodAll enc Tryd.prog W 0 (fun _ => true) true Tryd.f3.params.toList args.toList ds p := hA0
  rw [Tryd.params3] at hA hval
  obtain ⟨v0, vs0, d0, ds0, p0, q0, hargs, rfl, rfl, h0, r0⟩ := trodAll_cons hA
  obtain ⟨rfl, rfl, rfl⟩ := trodAll_nil r0
  obtain rfl : args = #[v0] := by cases args; simp_all
  obtain ⟨rfl, rfl⟩ := trodVars_none hV
  obtain ⟨f0, f1, f2, y0, y1, y2, m, rfl, rfl, rfl, hy0, hy1, hy2⟩ := Go.Joins.open_agg3 Tryd.underlying23 (by kernel_rfl) (by kernel_rfl) (hval 0 23 v0 rfl rfl) h0
  obtain ⟨a0, e0, rfl, wa⟩ := DataW.trod_string Tryd.underlying9 hy0
  obtain ⟨b0, e1, rfl, wb⟩ := DataW.trod_int Tryd.underlying3 hy1
  obtain ⟨c0, e2, rfl, wc⟩ := DataW.trod_string Tryd.underlying9 hy2
  simp at e0 e1 e2
  subst e0 e1 e2
  have w0 := And.intro wa (And.intro wb wc)
  clear hA0 hval0
  refine (walk a0 b0 c0 W w0 hL).mono fun e W' ⟨he, bel⟩ => ?_
  subst he
  exact ⟨_, rfl, _, _, _, [], _, [], hW', trodAll_mk1 (shut_bool Tryd.underlying4 _), (trodAll_cons_mk (Go.Joins.shut_agg3 Tryd.underlying23 (by kernel_rfl) (by kernel_rfl) (Go.Joins.field_of_Trod (shut_string Tryd.underlying9 w0.1) rfl) (Go.Joins.field_of_Trod (shut_int Tryd.underlying3 w0.2.1) rfl) (Go.Joins.field_of_Trod (shut_string Tryd.underlying9 w0.2.2) rfl)) trodAll_mk0), rfl, bel.frame _, fun h => by cases h⟩

theorem over : Rows.targetAnyRow.holds Tryd.pinned (OpenSpec.ofChange Rows.targetAnySpec) :=
  OpenClaim.holds_of_wide 3 Tryd.f3 rfl rfl rfl rfl rfl rfl rfl ⟨rfl, rfl, rfl, rfl, rfl⟩ rfl rfl rfl rfl rfl (by kernel_rfl) Tryd.func3 (by kernel_rfl)
    (of_decide_eq_true (by kernel_rfl)) (by unfold Func.isWrapper; first | (rw [if_pos (by decide +kernel)]; kernel_rfl) | (rw [if_neg (by decide +kernel)]; exact ⟨rfl, rfl⟩))
    (fun os started H enc _ => lifted os started H enc)

theorem said : Rows.TargetAnySaid :=
  over

theorem plain (f : FuncId) (fn : Func) (hf : Tryd.pinned.checked.prog.funcNamed "depot/depotlaw08.TargetAny" = some f) (hfn : Tryd.pinned.checked.prog.funcs[f]? = some fn) :
    false = Tryd.pinned.checked.prog.looks [] ∧ ∀ (j : Nat) t, fn.params[j]? = some t → Tryd.pinned.checked.prog.wantsStandIn t = false := by
  obtain rfl : f = 3 := Option.some.inj ((show Tryd.prog.funcNamed "depot/depotlaw08.TargetAny" = some 3 by kernel_rfl).symm.trans hf) |>.symm
  obtain rfl : fn = Tryd.f3 := (Option.some.inj (Tryd.func3.symm.trans hfn)).symm
  refine ⟨by kernel_rfl, fun j t ht => ?_⟩
  rw [Tryd.params3] at ht
  · obtain rfl : t = 23 := by simpa using Array.mem_of_getElem? ht
    exact (show Tryd.prog.wantsStandIn 23 = false by kernel_rfl)

theorem proved : Rows.TargetAnyCardSaid :=
  Claim7.holds_tied_plain_at .later [] _ _ _ _ said (fun _ h => by cases h) (by kernel_rfl) (fun _ h => by cases h) targetAny_row_tie rfl ⟨rfl, rfl⟩ (by kernel_rfl) rfl plain (by kernel_rfl)
#print axioms proved
end Go.Proofs.YtcmppmbieebkpaaDoor.targetAny
