/-
  The law OctetTexts returns true for every two texts and every byte and leaves what it was given as it was. No condition.
-/
import Derived.Test.YtdgpbohidnnjfaaRows
import Derived.WalkKit
import Derived.ProofKit
import Derived.OpenShut
import Derived.ShutString
import Derived.Test.YtdgpbohidnnjfaaOctEx
import Derived.Test.YtdgpbohidnnjfaaOctRt
import Derived.Test.YtdgpbohidnnjfaaOctRl
import Derived.Below
import Derived.ChangeOld
namespace Go.Proofs.Ytdgpbohidnnjfaa.octetTexts
open Go.ChangeShapes Go.WideShapes Go.ChangeAt Go.RowKit
open Go.ChangeMaps (open_string shut_string)
set_option linter.unusedVariables false      -- a walk need not use every 'w<i>' (that an integer argument fits its kind)

theorem own : ownKnob Try.prog.godebug = none := by kernel_rfl

theorem walk (a0 : ByteArray) (a1 : ByteArray) (a2 : Int) (w0 : a0.size ≤ maxLen) (w1 : a1.size ≤ maxLen) (w2 : (Lit.int .u8 a2).wf = true) (w : World) :
    Calls Try.prog 4 #[.string a0, .string a1, .int .u8 a2] w fun e w' => e = .returned (.bool true) ∧ Below w.heap.size w w' := by
  obtain ⟨b0, b1⟩ := wf_byte w2
  by_cases k0 : a0.size > 3000
  · have k0' : (3000 : Int) < (a0.size : Int) := by omega
    go_enter Try.func4, Try.ntmps4
    have hb := Below.refl w.heap.size w
    go_wp2_with fail
    refine (ex_any _).mono ?_
    rintro e w2 ⟨he, hb2⟩
    have hb := below_then hb hb2
    clear hb2
    subst he
    go_wp2_with fail
    go_ret
    exact ⟨rfl, hb⟩
  · have k0' : ¬ (3000 : Int) < (a0.size : Int) := by omega
    by_cases k1 : a1.size > 3000
    · have k1' : (3000 : Int) < (a1.size : Int) := by omega
      go_enter Try.func4, Try.ntmps4
      have hb := Below.refl w.heap.size w
      go_wp2_with fail
      refine (ex_any _).mono ?_
      rintro e w2 ⟨he, hb2⟩
      have hb := below_then hb hb2
      clear hb2
      subst he
      go_wp2_with fail
      go_ret
      exact ⟨rfl, hb⟩
    · have k1' : ¬ (3000 : Int) < (a1.size : Int) := by omega
      go_enter Try.func4, Try.ntmps4
      have hb := Below.refl w.heap.size w
      go_wp2_with fail
      refine (cut_any a0 a2 _ w0 b0 b1).mono ?_
      rintro e w2 ⟨he, hb2⟩
      have hb := below_then hb hb2
      clear hb2
      subst he
      go_wp2_with fail
      refine (r_cut a0 a2 _ w0 b0 b1).mono ?_
      rintro e w3 ⟨he, hb3⟩
      have hb := below_then hb hb3
      clear hb3
      subst he
      go_wp2_with fail
      refine (lower_any a0 _ w0).mono ?_
      rintro e w4 ⟨he, hb4⟩
      have hb := below_then hb hb4
      clear hb4
      subst he
      go_wp2_with fail
      refine (r_lower a0 _ w0).mono ?_
      rintro e w5 ⟨he, hb5⟩
      have hb := below_then hb hb5
      clear hb5
      subst he
      go_wp2_with fail
      refine (same_any a0 a1 _ w0 w1).mono ?_
      rintro e w6 ⟨he, hb6⟩
      have hb := below_then hb hb6
      clear hb6
      subst he
      go_wp2_with fail
      refine (r_same a0 a1 _ w0 w1).mono ?_
      rintro e w7 ⟨he, hb7⟩
      have hb := below_then hb hb7
      clear hb7
      subst he
      go_wp2_with fail
      refine (trim_any a0 _ w0).mono ?_
      rintro e w8 ⟨he, hb8⟩
      have hb := below_then hb hb8
      clear hb8
      subst he
      go_wp2_with fail
      refine (r_trim a0 _ w0).mono ?_
      rintro e w9 ⟨he, rfl⟩
      subst he
      go_wp2_with fail
      refine (isToken_any a0 _ w0).mono ?_
      rintro e w10 ⟨he, hb10⟩
      have hb := below_then hb hb10
      clear hb10
      subst he
      go_wp2_with fail
      refine (r_isToken a0 _ w0).mono ?_
      rintro e w11 ⟨he, rfl⟩
      subst he
      go_wp2_with fail
      refine (isText_any a0 _ w0).mono ?_
      rintro e w12 ⟨he, hb12⟩
      have hb := below_then hb hb12
      clear hb12
      subst he
      go_wp2_with fail
      refine (r_isText a0 _ w0).mono ?_
      rintro e w13 ⟨he, rfl⟩
      subst he
      go_wp2_with fail
      refine (ex_any _).mono ?_
      rintro e w14 ⟨he, hb14⟩
      have hb := below_then hb hb14
      clear hb14
      subst he
      go_wp2_with fail
      go_ret
      exact ⟨rfl, hb⟩

set_option maxRecDepth 100000 in
theorem lifted (os : Os) (started : os.Started) (H : Type) (enc : TypeId × Value → H) :
    ReturnsInHanded {} Try.checked os 4 .any (Rows.octetTextsSpec.pre6 enc Try.prog Try.f4 Rows.octetTextsRow.domain false) (Rows.octetTextsSpec.post enc Try.prog Try.f4 false true false false) := by
  refine returnsInHanded_of_change (C := Try.checked) own started (by kernel_rfl) Try.func4
    (ChangeSpec.witness6 (enc := enc) (C := Try.checked) false ⟨#[], #[.string ByteArray.empty, .string ByteArray.empty, .int .u8 0], []⟩ 8 (by kernel_rfl) (by kernel_rfl) (by kernel_rfl) (by kernel_rfl)) ?_
  intro W base args ds gs before hval0 hW hcnd _
  have hval : ∀ (j : Nat) t v, Try.f4.params[j]? = some t → args[j]? = some v → Value.okWide Try.prog W .any base t v := hval0
  have hW' := hW
  obtain ⟨p, q, hA0, hV, rfl, hfz, hnd⟩ := hW
  have hA : DataW.TrodAll enc Try.prog W 0 (fun _ => true) true Try.f4.params.toList args.toList ds p := hA0
  rw [Try.params4] at hA hval
  obtain ⟨v0, vs0, d0, ds0, p0, q0, hargs, rfl, rfl, h0, r0⟩ := trodAll_cons hA
  obtain ⟨v1, vs1, d1, ds1, p1, q1, rfl, rfl, rfl, h1, r1⟩ := trodAll_cons r0
  obtain ⟨v2, vs2, d2, ds2, p2, q2, rfl, rfl, rfl, h2, r2⟩ := trodAll_cons r1
  obtain ⟨rfl, rfl, rfl⟩ := trodAll_nil r2
  obtain rfl : args = #[v0, v1, v2] := by cases args; simp_all
  obtain ⟨rfl, rfl⟩ := trodVars_none hV
  obtain ⟨a0, rfl, rfl, rfl, w0⟩ := open_string Try.underlying9 (hval 0 9 v0 rfl rfl) h0
  obtain ⟨a1, rfl, rfl, rfl, w1⟩ := open_string Try.underlying9 (hval 1 9 v1 rfl rfl) h1
  obtain ⟨a2, rfl, rfl, rfl, w2⟩ := open_int Try.underlying5 (hval 2 5 v2 rfl rfl) h2
  clear hA0 hval0
  simp only [List.append_nil] at hW'
  refine (walk a0 a1 a2 w0 w1 w2 W).mono fun e W' ⟨he, hg⟩ => ?_
  subst he
  exact ⟨_, rfl, _, _, _, [], [], [], hW', (trodAll_cons_mk (shut_bool Try.underlying4 _) trodAll_mk0), (trodAll_cons_mk (shut_string Try.underlying9 w0) (trodAll_cons_mk (shut_string Try.underlying9 w1) (trodAll_cons_mk (shut_int Try.underlying5 w2) trodAll_mk0))), rfl, hg.frame _, fun h => by cases h⟩

theorem over : Rows.octetTextsRow.holds Try.pinned (OpenSpec.ofChange Rows.octetTextsSpec) :=
  OpenClaim.holds_of_wide 4 Try.f4 rfl rfl rfl rfl rfl rfl rfl ⟨rfl, rfl, rfl, rfl, rfl⟩ rfl rfl rfl rfl rfl (by kernel_rfl) Try.func4 (by kernel_rfl)
    (of_decide_eq_true (by kernel_rfl)) (by unfold Func.isWrapper; first | (rw [if_pos (by decide +kernel)]; kernel_rfl) | (rw [if_neg (by decide +kernel)]; exact ⟨rfl, rfl⟩))
    (fun os started H enc _ => lifted os started H enc)

theorem proved : Rows.OctetTextsSaid :=
  over
#print axioms proved
end Go.Proofs.Ytdgpbohidnnjfaa.octetTexts
