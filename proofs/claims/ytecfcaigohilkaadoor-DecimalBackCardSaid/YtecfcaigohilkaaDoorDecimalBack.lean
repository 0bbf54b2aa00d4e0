/-
  The law DecimalBack returns true for every number and every width and leaves what it was given as it was, tied to the program's own text: the library's three tables start as their initialisers lay them.
-/
import Derived.Test.YtecfcaigohilkaaDoorRows
import Derived.WalkKit
import Derived.ProofKit
import Derived.OpenShut
import Derived.ShutString
import Derived.Test.YtecfcaigohilkaaDoorDecEx
import Derived.Test.YtecfcaigohilkaaDoorDecLd
import Derived.Below
import Derived.ChangeOld
import Derived.Test.YtecfcaigohilkaaDoorCards
import Derived.Test.YtecfcaigohilkaaDoorTie
import Derived.LaidMore
import Derived.Lib.LaidTab
import Derived.Stop.Joined
namespace Go.Proofs.YtecfcaigohilkaaDoor.decimalBack
open Go.ChangeShapes Go.WideShapes Go.ChangeAt Go.RowKit
open Go.ChangeMaps (open_string shut_string)
set_option linter.unusedVariables false      -- a walk need not use every 'w<i>' (that an integer argument fits its kind)

theorem own : ownKnob Tryd.prog.godebug = none := by kernel_rfl

set_option maxRecDepth 100000 in
theorem walk (a0 : Int) (a1 : Int) (w0 : (Lit.int .i64 a0).wf = true) (w1 : (Lit.int .i64 a1).wf = true) (w : World) (hL : laidMetH Tryd.prog Rows.decimalBackRow.laid w) :
    Calls Tryd.prog 6 #[.int .i64 a0, .int .i64 a1] w fun e w' => e = .returned (.bool true) ∧ Below w.heap.size w w' := by
  have HT := Lib.hid (decTabs hL)
  clear hL
  have hb := Below.refl w.heap.size w
  obtain ⟨b0, b1⟩ := wf_i64 w0
  clear w0 w1
  by_cases h0 : a0 < 0
  · go_enter Tryd.func6, Tryd.ntmps6
    go_wp2_with fail
    refine (ex_any _ (HT.out.kept hb)).mono ?_
    rintro e w2 ⟨he, hb2⟩
    have hb := below_then hb hb2
    clear hb2
    subst he
    go_wp2_with fail
    go_ret
    exact ⟨rfl, hb⟩
  · by_cases h1 : 1000000000000000000 ≤ a0
    · go_enter Tryd.func6, Tryd.ntmps6
      go_wp2_with fail
      refine (ex_any _ (HT.out.kept hb)).mono ?_
      rintro e w2 ⟨he, hb2⟩
      have hb := below_then hb hb2
      clear hb2
      subst he
      go_wp2_with fail
      go_ret
      exact ⟨rfl, hb⟩
    · obtain ⟨n, hn⟩ : ∃ n : Nat, a0 = n := ⟨a0.toNat, by omega⟩
      have P1 : Hid (numN 10 18 a0 (plainL a0) = a0 ∧ numE 10 18 a0 (plainL a0) = 0) := by show _ ∧ _; rw [hn]; exact back_plain n (by omega)
      have P2 : Hid (numN 10 18 a0 (padL a0 a1) = a0 ∧ numE 10 18 a0 (padL a0 a1) = 0) := by show _ ∧ _; rw [hn]; exact back_pad n a1 (by omega)
      have P3 : Hid (numN 16 15 a0 (hexL a0) = a0 ∧ numE 16 15 a0 (hexL a0) = 0) := by show _ ∧ _; rw [hn]; exact back_hex n (by omega)
      have P4 : Hid (secN (plainL a0) = (if a0 < 2147483648 then a0 else 2147483648) ∧ secB (plainL a0) = true) := by show _ ∧ _; rw [hn]; exact back_sec n
      clear hn n
      by_cases h2 : a0 ≤ 2147483648
      · have hm : min a0 2147483648 = a0 := Int.min_eq_left h2
        have HS : Hid ((if a0 < 2147483648 then a0 else 2147483648) = a0) := min_if a0 h2
        clear h2
        go_enter Tryd.func6, Tryd.ntmps6
        go_wp2_with fail
        refine (plain_any a0 b0 b1 _ (HT.out.kept hb).pow).mono ?_
        rintro e w2 ⟨he, hb2⟩
        have hb := below_then hb hb2
        clear hb2
        subst he
        go_wp2_with fail
        refine (Number_any _ a0 _).mono ?_
        rintro e w3 ⟨he, hb3⟩
        have hb := below_then hb hb3
        clear hb3
        rw [mkS_list, P1.out.1, P1.out.2] at he
        subst he
        go_wp2_with fail
        refine (pad_any a0 a1 b0 b1 _ (HT.out.kept hb).pow).mono ?_
        rintro e w4 ⟨he, hb4⟩
        have hb := below_then hb hb4
        clear hb4
        subst he
        go_wp2_with fail
        refine (Number_any _ a0 _).mono ?_
        rintro e w5 ⟨he, hb5⟩
        have hb := below_then hb hb5
        clear hb5
        rw [mkS_list, P2.out.1, P2.out.2] at he
        subst he
        go_wp2_with fail
        refine (hex_any a0 b1 _ (HT.out.kept hb).br).mono ?_
        rintro e w6 ⟨he, hb6⟩
        have hb := below_then hb hb6
        clear hb6
        subst he
        go_wp2_with fail
        refine (ReadHex_any _ a0 _).mono ?_
        rintro e w7 ⟨he, hb7⟩
        have hb := below_then hb hb7
        clear hb7
        rw [mkS_list, P3.out.1, P3.out.2] at he
        subst he
        go_wp2_with fail
        refine (plain_any a0 b0 b1 _ (HT.out.kept hb).pow).mono ?_
        rintro e w8 ⟨he, hb8⟩
        have hb := below_then hb hb8
        clear hb8
        subst he
        go_wp2_with fail
        refine (seconds_any _ _).mono ?_
        rintro e w9 ⟨he, hb9⟩
        have hb := below_then hb hb9
        clear hb9
        rw [mkS_list, P4.out.1, P4.out.2, HS.out] at he
        subst he
        go_wp2_with fail
        refine (ex_any _ (HT.out.kept hb)).mono ?_
        rintro e w10 ⟨he, hb10⟩
        have hb := below_then hb hb10
        clear hb10
        subst he
        go_wp2_with fail
        go_ret
        exact ⟨rfl, hb⟩
      · have hm : min a0 2147483648 = 2147483648 := Int.min_eq_right (by omega)
        have HS : Hid ((if a0 < 2147483648 then a0 else 2147483648) = 2147483648) := by show _ = _; rw [if_neg (by omega)]
        clear h2
        go_enter Tryd.func6, Tryd.ntmps6
        go_wp2_with fail
        refine (plain_any a0 b0 b1 _ (HT.out.kept hb).pow).mono ?_
        rintro e w2 ⟨he, hb2⟩
        have hb := below_then hb hb2
        clear hb2
        subst he
        go_wp2_with fail
        refine (Number_any _ a0 _).mono ?_
        rintro e w3 ⟨he, hb3⟩
        have hb := below_then hb hb3
        clear hb3
        rw [mkS_list, P1.out.1, P1.out.2] at he
        subst he
        go_wp2_with fail
        refine (pad_any a0 a1 b0 b1 _ (HT.out.kept hb).pow).mono ?_
        rintro e w4 ⟨he, hb4⟩
        have hb := below_then hb hb4
        clear hb4
        subst he
        go_wp2_with fail
        refine (Number_any _ a0 _).mono ?_
        rintro e w5 ⟨he, hb5⟩
        have hb := below_then hb hb5
        clear hb5
        rw [mkS_list, P2.out.1, P2.out.2] at he
        subst he
        go_wp2_with fail
        refine (hex_any a0 b1 _ (HT.out.kept hb).br).mono ?_
        rintro e w6 ⟨he, hb6⟩
        have hb := below_then hb hb6
        clear hb6
        subst he
        go_wp2_with fail
        refine (ReadHex_any _ a0 _).mono ?_
        rintro e w7 ⟨he, hb7⟩
        have hb := below_then hb hb7
        clear hb7
        rw [mkS_list, P3.out.1, P3.out.2] at he
        subst he
        go_wp2_with fail
        refine (plain_any a0 b0 b1 _ (HT.out.kept hb).pow).mono ?_
        rintro e w8 ⟨he, hb8⟩
        have hb := below_then hb hb8
        clear hb8
        subst he
        go_wp2_with fail
        refine (seconds_any _ _).mono ?_
        rintro e w9 ⟨he, hb9⟩
        have hb := below_then hb hb9
        clear hb9
        rw [mkS_list, P4.out.1, P4.out.2, HS.out] at he
        subst he
        go_wp2_with fail
        refine (ex_any _ (HT.out.kept hb)).mono ?_
        rintro e w10 ⟨he, hb10⟩
        have hb := below_then hb hb10
        clear hb10
        subst he
        go_wp2_with fail
        go_ret
        exact ⟨rfl, hb⟩

theorem door_met (os : Os) (args : Array Value) : laidMetH Tryd.prog Rows.decimalBackRow.laid ((World.doorLaid Tryd.prog 24 os).forCall (fun _ _ => 0) ⟨#[], args, []⟩).memory :=
  laidMetH_of_parts3 (fuel := 8) (laidMet_of_run' 8 (by kernel_rfl) (by kernel_rfl)) (by kernel_rfl) (by kernel_rfl)

set_option maxRecDepth 100000 in
theorem lifted (os : Os) (started : os.Started) (H : Type) (enc : TypeId × Value → H) :
    ReturnsInHanded {} Tryd.checked os 6 .any (fun w args => (Rows.decimalBackSpec.pre enc Tryd.prog Tryd.f6 [] false w args ∧ laidMetH Tryd.prog Rows.decimalBackRow.laid w) ∧ sizedMet enc Tryd.prog Tryd.f6 (OpenSpec.ofChange Rows.decimalBackSpec) false w args) (Rows.decimalBackSpec.post enc Tryd.prog Tryd.f6 false true false false) := by
  refine returnsInHanded_of_change_and (C := Tryd.checked) (X := fun w _ => laidMetH Tryd.prog Rows.decimalBackRow.laid w) (fun _ _ _ hh h => h.of_heap hh) own started (by kernel_rfl) Tryd.func6
    (ChangeSpec.witness_shaped (enc := enc) (C := Tryd.checked) (os := os) (X := fun w _ => laidMetH Tryd.prog Rows.decimalBackRow.laid w) false (World.doorLaid Tryd.prog 24 os) #[.int .i64 0, .int .i64 0] 8 rfl (World.shaped_of_RefB (by kernel_rfl) (by kernel_rfl)) (by kernel_rfl) (by kernel_rfl) (by kernel_rfl) (door_met os _)) ?_
  intro W base args ds gs before hval0 hW _ _ hL _
  have hval : ∀ (j : Nat) t v, Tryd.f6.params[j]? = some t → args[j]? = some v → Value.okWide Tryd.prog W .any base t v := hval0
  have hW' := hW
  obtain ⟨p, q, hA0, hV, rfl, hfz, hnd⟩ := hW
  have hA : DataW.TrodAll enc Tryd.prog W 0 (fun _ => true) true Tryd.f6.params.toList args.toList ds p := hA0
  rw [Tryd.params6] at hA hval
  obtain ⟨v0, vs0, d0, ds0, p0, q0, hargs, rfl, rfl, h0, r0⟩ := trodAll_cons hA
  obtain ⟨v1, vs1, d1, ds1, p1, q1, rfl, rfl, rfl, h1, r1⟩ := trodAll_cons r0
  obtain ⟨rfl, rfl, rfl⟩ := trodAll_nil r1
  obtain rfl : args = #[v0, v1] := by cases args; simp_all
  obtain ⟨rfl, rfl⟩ := trodVars_none hV
  obtain ⟨a0, rfl, rfl, rfl, w0⟩ := open_int Tryd.underlying3 (hval 0 3 v0 rfl rfl) h0
  obtain ⟨a1, rfl, rfl, rfl, w1⟩ := open_int Tryd.underlying3 (hval 1 3 v1 rfl rfl) h1
  clear hA0 hval0
  simp only [List.append_nil] at hW'
  refine (walk a0 a1 w0 w1 W hL).mono fun e W' ⟨he, hg⟩ => ?_
  subst he
  exact ⟨_, rfl, _, _, _, [], [], [], hW', (trodAll_cons_mk (shut_bool Tryd.underlying4 _) trodAll_mk0), (trodAll_cons_mk (shut_int Tryd.underlying3 w0) (trodAll_cons_mk (shut_int Tryd.underlying3 w1) trodAll_mk0)), rfl, hg.frame _, fun h => by cases h⟩

theorem over : Rows.decimalBackRow.holds Tryd.pinned (OpenSpec.ofChange Rows.decimalBackSpec) :=
  OpenClaim.holds_of_wide 6 Tryd.f6 rfl rfl rfl rfl rfl rfl rfl ⟨rfl, rfl, rfl, rfl, rfl⟩ rfl rfl rfl rfl rfl (by kernel_rfl) Tryd.func6 (by kernel_rfl)
    (of_decide_eq_true (by kernel_rfl)) (by unfold Func.isWrapper; first | (rw [if_pos (by decide +kernel)]; kernel_rfl) | (rw [if_neg (by decide +kernel)]; exact ⟨rfl, rfl⟩))
    (fun os started H enc _ => lifted os started H enc)

theorem said : Rows.DecimalBackSaid :=
  over

theorem plain (f : FuncId) (fn : Func) (hf : Tryd.pinned.checked.prog.funcNamed "depot/depotlaw02.DecimalBack" = some f) (hfn : Tryd.pinned.checked.prog.funcs[f]? = some fn) :
    false = Tryd.pinned.checked.prog.looks [] ∧ ∀ (j : Nat) t, fn.params[j]? = some t → Tryd.pinned.checked.prog.wantsStandIn t = false := by
  obtain rfl : f = 6 := Option.some.inj ((show Tryd.prog.funcNamed "depot/depotlaw02.DecimalBack" = some 6 by kernel_rfl).symm.trans hf) |>.symm
  obtain rfl : fn = Tryd.f6 := (Option.some.inj (Tryd.func6.symm.trans hfn)).symm
  refine ⟨by kernel_rfl, fun j t ht => ?_⟩
  rw [Tryd.params6] at ht
  · obtain rfl : t = 3 := by simpa using Array.mem_of_getElem? ht
    exact (show Tryd.prog.wantsStandIn 3 = false by kernel_rfl)

theorem proved : Rows.DecimalBackCardSaid :=
  Claim7.holds_tied_plain_at .later [] _ _ _ _ said (fun _ h => by cases h) (by kernel_rfl) (fun _ h => by cases h) decimalBack_row_tie rfl ⟨rfl, rfl⟩ (by kernel_rfl) rfl plain (by kernel_rfl)
#print axioms proved
end Go.Proofs.YtecfcaigohilkaaDoor.decimalBack
