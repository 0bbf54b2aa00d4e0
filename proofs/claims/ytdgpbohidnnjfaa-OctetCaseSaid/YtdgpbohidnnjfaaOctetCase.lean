/-
  The law OctetCase returns true for every two texts and leaves what it was given as it was. No condition.
-/
import Derived.Test.YtdgpbohidnnjfaaRows
import Derived.WalkKit
import Derived.ProofKit
import Derived.OpenShut
import Derived.ShutString
import Derived.Test.YtdgpbohidnnjfaaOctEx
import Derived.Test.YtdgpbohidnnjfaaOctRt
import Derived.Test.YtdgpbohidnnjfaaOctRl
import Derived.Below
import Derived.ChangeOld
namespace Go.Proofs.Ytdgpbohidnnjfaa.octetCase
open Go.ChangeShapes Go.WideShapes Go.ChangeAt Go.RowKit
open Go.ChangeMaps (open_string shut_string)
set_option linter.unusedVariables false      -- a walk need not use every 'w<i>' (that an integer argument fits its kind)

theorem own : ownKnob Try.prog.godebug = none := by kernel_rfl

theorem walk (a0 : ByteArray) (a1 : ByteArray) (w0 : a0.size ≤ maxLen) (w1 : a1.size ≤ maxLen) (w : World) :
    Calls Try.prog 5 #[.string a0, .string a1] w fun e w' => e = .returned (.bool true) ∧ Below w.heap.size w w' := by
  have hsz := low_size a0
  have wl : (mkS (lowL a0.data.toList)).size ≤ maxLen := by rw [hsz]; exact w0
  have hq : ((mkS (lowL a1.data.toList)).toList == (mkS (lowL a0.data.toList)).toList) = sameB a0 a1 := by rw [same_list]; exact same_symm a0 a1
  by_cases k0 : a0.size > 3000
  · have k0' : (3000 : Int) < (a0.size : Int) := by omega
    go_enter Try.func5, Try.ntmps5
    have hb := Below.refl w.heap.size w
    go_wp2_with fail
    refine (ex_any _).mono ?_
    rintro e w2 ⟨he, hb2⟩
    have hb := below_then hb hb2
    clear hb2
    subst he
    go_wp2_with fail
    go_ret
    exact ⟨rfl, hb⟩
  · have k0' : ¬ (3000 : Int) < (a0.size : Int) := by omega
    by_cases k1 : a1.size > 3000
    · have k1' : (3000 : Int) < (a1.size : Int) := by omega
      go_enter Try.func5, Try.ntmps5
      have hb := Below.refl w.heap.size w
      go_wp2_with fail
      refine (ex_any _).mono ?_
      rintro e w2 ⟨he, hb2⟩
      have hb := below_then hb hb2
      clear hb2
      subst he
      go_wp2_with fail
      go_ret
      exact ⟨rfl, hb⟩
    · have k1' : ¬ (3000 : Int) < (a1.size : Int) := by omega
      go_enter Try.func5, Try.ntmps5
      have hb := Below.refl w.heap.size w
      go_wp2_with fail
      refine (lower_any a0 _ w0).mono ?_
      rintro e w2 ⟨he, hb2⟩
      have hb := below_then hb hb2
      clear hb2
      subst he
      go_wp2_with fail
      refine (lower_any _ _ wl).mono ?_
      rintro e w3 ⟨he, hb3⟩
      have hb := below_then hb hb3
      clear hb3
      rw [low_twice] at he
      subst he
      go_wp2_with fail
      refine (same_any a0 _ _ w0 wl).mono ?_
      rintro e w4 ⟨he, hb4⟩
      have hb := below_then hb hb4
      clear hb4
      rw [same_low] at he
      subst he
      go_wp2_with fail
      refine (same_any a0 a1 _ w0 w1).mono ?_
      rintro e w5 ⟨he, hb5⟩
      have hb := below_then hb hb5
      clear hb5
      subst he
      go_wp2_with fail
      refine (same_any a1 a0 _ w1 w0).mono ?_
      rintro e w6 ⟨he, hb6⟩
      have hb := below_then hb hb6
      clear hb6
      rw [same_symm] at he
      subst he
      go_wp2_with fail
      refine (lower_any a1 _ w1).mono ?_
      rintro e w7 ⟨he, hb7⟩
      have hb := below_then hb hb7
      clear hb7
      subst he
      go_wp2_with fail
      refine (same_any a0 a1 _ w0 w1).mono ?_
      rintro e w8 ⟨he, hb8⟩
      have hb := below_then hb hb8
      clear hb8
      subst he
      go_wp2_with fail
      refine (isToken_any _ _ wl).mono ?_
      rintro e w9 ⟨he, hb9⟩
      have hb := below_then hb hb9
      clear hb9
      rw [allTok_low] at he
      subst he
      go_wp2_with fail
      refine (isToken_any a0 _ w0).mono ?_
      rintro e w10 ⟨he, hb10⟩
      have hb := below_then hb hb10
      clear hb10
      subst he
      go_wp2_with fail
      refine (ex_any _).mono ?_
      rintro e w11 ⟨he, hb11⟩
      have hb := below_then hb hb11
      clear hb11
      subst he
      go_wp2_with fail
      go_ret
      exact ⟨rfl, hb⟩

set_option maxRecDepth 100000 in
theorem lifted (os : Os) (started : os.Started) (H : Type) (enc : TypeId × Value → H) :
    ReturnsInHanded {} Try.checked os 5 .any (Rows.octetCaseSpec.pre6 enc Try.prog Try.f5 Rows.octetCaseRow.domain false) (Rows.octetCaseSpec.post enc Try.prog Try.f5 false true false false) := by
  refine returnsInHanded_of_change (C := Try.checked) own started (by kernel_rfl) Try.func5
    (ChangeSpec.witness6 (enc := enc) (C := Try.checked) false ⟨#[], #[.string ByteArray.empty, .string ByteArray.empty], []⟩ 8 (by kernel_rfl) (by kernel_rfl) (by kernel_rfl) (by kernel_rfl)) ?_
  intro W base args ds gs before hval0 hW hcnd _
  have hval : ∀ (j : Nat) t v, Try.f5.params[j]? = some t → args[j]? = some v → Value.okWide Try.prog W .any base t v := hval0
  have hW' := hW
  obtain ⟨p, q, hA0, hV, rfl, hfz, hnd⟩ := hW
  have hA : DataW.TrodAll enc Try.prog W 0 (fun _ => true) true Try.f5.params.toList args.toList ds p := hA0
  rw [Try.params5] at hA hval
  obtain ⟨v0, vs0, d0, ds0, p0, q0, hargs, rfl, rfl, h0, r0⟩ := trodAll_cons hA
  obtain ⟨v1, vs1, d1, ds1, p1, q1, rfl, rfl, rfl, h1, r1⟩ := trodAll_cons r0
  obtain ⟨rfl, rfl, rfl⟩ := trodAll_nil r1
  obtain rfl : args = #[v0, v1] := by cases args; simp_all
  obtain ⟨rfl, rfl⟩ := trodVars_none hV
  obtain ⟨a0, rfl, rfl, rfl, w0⟩ := open_string Try.underlying9 (hval 0 9 v0 rfl rfl) h0
  obtain ⟨a1, rfl, rfl, rfl, w1⟩ := open_string Try.underlying9 (hval 1 9 v1 rfl rfl) h1
  clear hA0 hval0
  simp only [List.append_nil] at hW'
  refine (walk a0 a1 w0 w1 W).mono fun e W' ⟨he, hg⟩ => ?_
  subst he
  exact ⟨_, rfl, _, _, _, [], [], [], hW', (trodAll_cons_mk (shut_bool Try.underlying4 _) trodAll_mk0), (trodAll_cons_mk (shut_string Try.underlying9 w0) (trodAll_cons_mk (shut_string Try.underlying9 w1) trodAll_mk0)), rfl, hg.frame _, fun h => by cases h⟩

theorem over : Rows.octetCaseRow.holds Try.pinned (OpenSpec.ofChange Rows.octetCaseSpec) :=
  OpenClaim.holds_of_wide 5 Try.f5 rfl rfl rfl rfl rfl rfl rfl ⟨rfl, rfl, rfl, rfl, rfl⟩ rfl rfl rfl rfl rfl (by kernel_rfl) Try.func5 (by kernel_rfl)
    (of_decide_eq_true (by kernel_rfl)) (by unfold Func.isWrapper; first | (rw [if_pos (by decide +kernel)]; kernel_rfl) | (rw [if_neg (by decide +kernel)]; exact ⟨rfl, rfl⟩))
    (fun os started H enc _ => lifted os started H enc)

theorem proved : Rows.OctetCaseSaid :=
  over
#print axioms proved
end Go.Proofs.Ytdgpbohidnnjfaa.octetCase
