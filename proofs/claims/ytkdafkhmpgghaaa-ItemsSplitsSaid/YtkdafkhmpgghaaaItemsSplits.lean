/-
  The law ItemsSplits returns true for every two texts and leaves what it was given as it was. No condition.
-/
import Derived.Test.YtkdafkhmpgghaaaRows
import Derived.WalkKit
import Derived.ProofKit
import Derived.OpenShut
import Derived.ShutString
import Derived.Test.YtkdafkhmpgghaaaItmX
import Derived.Below
import Derived.ChangeOld
namespace Go.Proofs.Ytkdafkhmpgghaaa.itemsSplits
open Go.ChangeShapes Go.WideShapes Go.ChangeAt Go.RowKit
open Go.ChangeMaps (open_string shut_string)
set_option linter.unusedVariables false      -- a walk need not use every 'w<i>' (that an integer argument fits its kind)

theorem own : ownKnob Try.prog.godebug = none := by kernel_rfl

set_option maxHeartbeats 8000000 in
set_option maxRecDepth 100000 in
theorem walk (a0 : ByteArray) (a1 : ByteArray) (w0 : a0.size ≤ maxLen) (w1 : a1.size ≤ maxLen) (w : World) :
    Calls Try.prog 3 #[.string a0, .string a1] w fun e w' => e = .returned (.bool true) ∧ Below w.heap.size w w' := by
  by_cases k0 : (2000 : Int) < (a0.size : Int) ∨ (2000 : Int) < (a1.size : Int)
  · go_enter Try.func3, Try.ntmps3
    rcases Classical.em ((2000 : Int) < (a0.size : Int)) with h1 | h1
    all_goals
      have k1 : (2000 : Int) < (a0.size : Int) ∨ (2000 : Int) < (a1.size : Int) := k0
      try have h2 : (2000 : Int) < (a1.size : Int) := k0.resolve_left h1
      clear k1 k0
      go_wp2_with fail
      refine (ex_any _).mono ?_
      rintro e w2 ⟨rfl, hb2⟩
      go_wp2_with fail
      go_ret
      exact ⟨rfl, hb2⟩
  · have h1 : ¬ (2000 : Int) < (a0.size : Int) := fun h => k0 (.inl h)
    have h2 : ¬ (2000 : Int) < (a1.size : Int) := fun h => k0 (.inr h)
    clear k0
    obtain ⟨L, hL⟩ : ∃ L, L = splO a0.data.toList := ⟨_, rfl⟩
    obtain ⟨E, hE⟩ : ∃ E, E = splE a0.data.toList := ⟨_, rfl⟩
    have hsp := split_any a0 w (by omega)
    have hgood : Hid (L.length ≤ 2001 ∧ ∀ x ∈ L, x.length ≤ 2000) := by
      show _ ∧ _
      rw [hL]
      unfold splO
      have hz := Lib.size_eq a0
      cases h : splitL a0.data.toList with
      | none => simp
      | some M =>
        have := split_good h
        exact ⟨by have := this.2; simp; omega, fun x hx => by have := (this.1 x hx).2; omega⟩
    have HJ : Hid ((Lib.join L [44, 32]).length ≤ 1000000000000) := by
      have := join_le L 2001 2000 hgood.out.1 hgood.out.2
      show _ ≤ _
      omega
    rw [← hL, ← hE] at hsp
    have HSP := Lib.hid hsp
    have hrs := fun W => r_split a0 W (by omega)
    rw [← hL, ← hE] at hrs
    have HRS := Lib.hid hrs
    have hh := fun W => has_any a0 a1 W (by omega) w1
    rw [← hL] at hh
    have HH := Lib.hid hh
    have hr := fun W => r_has a0 a1 W (by omega) w1
    rw [← hL] at hr
    have HR := Lib.hid hr
    clear hsp hrs hh hr hL hE
    obtain ⟨b, hb⟩ : ∃ b, b = hasL L a1 := ⟨_, rfl⟩
    have HB := Lib.hid hb
    clear hb
    go_enter Try.func3, Try.ntmps3
    go_wp2_with fail
    refine HSP.out.mono ?_
    rintro e w2 ⟨A, c, rfl, hA, hH, hb2⟩
    go_wp2_with fail
    refine (HRS.out _).mono ?_
    rintro e w3 ⟨B, d, rfl, hB, hG, hb3⟩
    have hA := hA.below hb3
    have hb := below_then hb2 hb3
    clear hb2 hb3
    go_wp2_with fail
    refine (r_sames _ _ _ _ _ _ _ _ _ hA hB (by have := hgood.out.1; omega)).mono ?_
    rintro e w4 ⟨he, hb4⟩
    rw [show (L == L) = true by simp] at he
    subst he
    have hB := hB.below hb4
    have hG := hG.below hb4
    have hb := below_then hb hb4
    clear hb4 hA
    go_wp2_with fail
    refine (HH.out _).mono ?_
    rintro e w5 ⟨he, hb5⟩
    rw [← HB.out] at he
    subst he
    have hB := hB.below hb5
    have hG := hG.below hb5
    have hb := below_then hb hb5
    clear hb5
    go_wp2_with fail
    refine (HR.out _).mono ?_
    rintro e w6 ⟨he, hb6⟩
    rw [← HB.out] at he
    subst he
    have hB := hB.below hb6
    have hG := hG.below hb6
    have hb := below_then hb hb6
    clear hb6
    go_wp2_with fail
    refine (join_any _ _ _ _ _ hB hG (by have := hgood.out.1; omega) HJ.out).mono ?_
    rintro e w7 ⟨he, hb7⟩
    obtain ⟨J, hJ⟩ : ∃ J, J = mkS (Lib.join L [44, 32]) := ⟨_, rfl⟩
    rw [← hJ] at he
    subst he
    have HJJ := Lib.hid hJ
    have hB := hB.below hb7
    have hb := below_then hb hb7
    clear hb7 hJ
    go_wp2_with fail
    refine (r_join _ _ _ _ _ hB (by have := hgood.out.1; omega) (fun x hx => by have := hgood.out.2 x hx; omega)).mono ?_
    rintro e w8 ⟨he, rfl⟩
    rw [← HJJ.out] at he
    subst he
    go_wp2_with fail
    refine (ex_any _).mono ?_
    rintro e w9 ⟨rfl, hb9⟩
    have hb := below_then hb hb9
    clear hb9
    go_wp2_with fail
    go_ret
    exact ⟨rfl, hb⟩

set_option maxRecDepth 100000 in
theorem lifted (os : Os) (started : os.Started) (H : Type) (enc : TypeId × Value → H) :
    ReturnsInHanded {} Try.checked os 3 .any (Rows.itemsSplitsSpec.pre6 enc Try.prog Try.f3 Rows.itemsSplitsRow.domain false) (Rows.itemsSplitsSpec.post enc Try.prog Try.f3 false true false false) := by
  refine returnsInHanded_of_change (C := Try.checked) own started (by kernel_rfl) Try.func3
    (ChangeSpec.witness6 (enc := enc) (C := Try.checked) false ⟨#[], #[.string ByteArray.empty, .string ByteArray.empty], []⟩ 8 (by kernel_rfl) (by kernel_rfl) (by kernel_rfl) (by kernel_rfl)) ?_
  intro W base args ds gs before hval0 hW hcnd _
  have hval : ∀ (j : Nat) t v, Try.f3.params[j]? = some t → args[j]? = some v → Value.okWide Try.prog W .any base t v := hval0
  have hW' := hW
  obtain ⟨p, q, hA0, hV, rfl, hfz, hnd⟩ := hW
  have hA : DataW.TrodAll enc Try.prog W 0 (fun _ => true) true Try.f3.params.toList args.toList ds p := hA0
  rw [Try.params3] at hA hval
  obtain ⟨v0, vs0, d0, ds0, p0, q0, hargs, rfl, rfl, h0, r0⟩ := trodAll_cons hA
  obtain ⟨v1, vs1, d1, ds1, p1, q1, rfl, rfl, rfl, h1, r1⟩ := trodAll_cons r0
  obtain ⟨rfl, rfl, rfl⟩ := trodAll_nil r1
  obtain rfl : args = #[v0, v1] := by cases args; simp_all
  obtain ⟨rfl, rfl⟩ := trodVars_none hV
  obtain ⟨a0, rfl, rfl, rfl, w0⟩ := open_string Try.underlying9 (hval 0 9 v0 rfl rfl) h0
  obtain ⟨a1, rfl, rfl, rfl, w1⟩ := open_string Try.underlying9 (hval 1 9 v1 rfl rfl) h1
  clear hA0 hval0
  simp only [List.append_nil] at hW'
  refine (walk a0 a1 w0 w1 W).mono fun e W' ⟨he, hg⟩ => ?_
  subst he
  exact ⟨_, rfl, _, _, _, [], [], [], hW', (trodAll_cons_mk (shut_bool Try.underlying4 _) trodAll_mk0), (trodAll_cons_mk (shut_string Try.underlying9 w0) (trodAll_cons_mk (shut_string Try.underlying9 w1) trodAll_mk0)), rfl, hg.frame _, fun h => by cases h⟩

theorem over : Rows.itemsSplitsRow.holds Try.pinned (OpenSpec.ofChange Rows.itemsSplitsSpec) :=
  OpenClaim.holds_of_wide 3 Try.f3 rfl rfl rfl rfl rfl rfl rfl ⟨rfl, rfl, rfl, rfl, rfl⟩ rfl rfl rfl rfl rfl (by kernel_rfl) Try.func3 (by kernel_rfl)
    (of_decide_eq_true (by kernel_rfl)) (by unfold Func.isWrapper; first | (rw [if_pos (by decide +kernel)]; kernel_rfl) | (rw [if_neg (by decide +kernel)]; exact ⟨rfl, rfl⟩))
    (fun os started H enc _ => lifted os started H enc)

theorem proved : Rows.ItemsSplitsSaid :=
  over
#print axioms proved
end Go.Proofs.Ytkdafkhmpgghaaa.itemsSplits
