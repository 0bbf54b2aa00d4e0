/-
  The law MixSeeds returns true for any two seeds, every string and every number of sets. No condition.
-/
import Derived.Test.YtlmolmbcpignkaaRows
import Derived.WalkKit
import Derived.ProofKit
import Derived.OpenShut
import Derived.ShutString
import Derived.Test.YtlmolmbcpignkaaMixX
import Derived.Below
import Derived.ChangeOld
namespace Go.Proofs.Ytlmolmbcpignkaa.mixSeeds
open Go.ChangeShapes Go.WideShapes Go.ChangeAt Go.RowKit
open Go.ChangeMaps (open_string shut_string)
set_option linter.unusedVariables false      -- a walk need not use every 'w<i>' (that an integer argument fits its kind)

theorem own : ownKnob Try.prog.godebug = none := by kernel_rfl

set_option maxHeartbeats 8000000 in
set_option maxRecDepth 100000 in
theorem walk (a0 : Int) (a1 : Int) (a2 : ByteArray) (a3 : Int) (w0 : (Lit.int .i64 a0).wf = true) (w1 : (Lit.int .i64 a1).wf = true) (w2 : a2.size ≤ maxLen) (w3 : (Lit.int .i64 a3).wf = true) (w : World) :
    Calls Try.prog 5 #[.int .i64 a0, .int .i64 a1, .string a2, .int .i64 a3] w fun e w' => e = .returned (.bool true) ∧ Below w.heap.size w w' := by
  obtain ⟨b00, b01⟩ := wf_i64 w0
  obtain ⟨b10, b11⟩ := wf_i64 w1
  obtain ⟨b30, b31⟩ := wf_i64 w3
  clear w0 w1 w3
  have hsz := w2
  unfold maxLen at hsz
  by_cases k0 : (300 : Int) < (a2.size : Int)
  · go_enter Try.func5, Try.ntmps5
    go_wp2_with fail
    refine (ex_any _).mono ?_
    rintro e w1 ⟨rfl, hb⟩
    go_wp2_with fail
    go_ret
    exact ⟨rfl, hb⟩
  · have hinj := hashN_inj b00 b01 b10 b11 a2.data.toList (by rw [← Lib.size_eq]; omega)
    obtain ⟨q, hq⟩ : ∃ q, q = hashN a0 a2.data.toList := ⟨_, rfl⟩
    obtain ⟨r, hr⟩ : ∃ r, r = hashN a1 a2.data.toList := ⟨_, rfl⟩
    have hqr : a0 = a1 ∧ r = q ∨ ¬ a0 = a1 ∧ ¬ (q : Int) = (r : Int) := by
      by_cases e : a0 = a1
      · exact .inl ⟨e, by rw [hq, hr, e]⟩
      · exact .inr ⟨e, fun k => e (hinj (by rw [← hq, ← hr]; omega))⟩
    have hql : q < 18446744073709551616 := by rw [hq]; exact hashN_lt _ _
    obtain ⟨n, hn⟩ : ∃ n, n = setN q a3 := ⟨_, rfl⟩
    have hn3 : a3 < 1 ∧ n = 0 ∨ 1 ≤ a3 ∧ (n : Int) < a3 := by
      unfold setN at hn
      by_cases e : a3 < 1
      · rw [if_pos e] at hn; exact .inl ⟨e, hn⟩
      · rw [if_neg e] at hn
        have := Nat.mod_lt q (show 0 < a3.toNat by omega)
        exact .inr ⟨by omega, by omega⟩
    obtain ⟨p, hp⟩ : ∃ p : Int, p = ((q / 281474976710656 : Nat) : Int) := ⟨_, rfl⟩
    have hp0 : 0 ≤ p := by omega
    have hpl : p < 65536 := by omega
    have HQ := Lib.hid hq
    have HR := Lib.hid hr
    have HN := Lib.hid hn
    have HP := Lib.hid hp
    clear hq hr hn hp hinj
    clear b00 b01 b10 b11
    go_enter Try.func5, Try.ntmps5
    go_wp2_with fail
    refine (hash_any a0 a2 w2 _).mono ?_
    rintro e w1 ⟨he, hb⟩
    rw [← HQ.out] at he
    subst he
    go_wp2_with fail
    refine (set_any q hql a3 b31 _).mono ?_
    rintro e w2 ⟨he, rfl⟩
    rw [← HN.out] at he
    subst he
    go_wp2_with fail
    refine (part_any q hql _).mono ?_
    rintro e w2 ⟨he, rfl⟩
    rw [← HP.out] at he
    subst he
    go_wp2_with fail
    refine (hash_any a1 a2 w2 _).mono ?_
    rintro e w2 ⟨he, hb2⟩
    rw [← HR.out] at he
    subst he
    have hb := below_then hb hb2
    clear hb2
    clear hql
    rcases hn3 with ⟨n1, n2⟩ | ⟨n1, n2⟩
    · subst n2
      rcases hqr with ⟨q1, q2⟩ | ⟨q1, q2⟩
      · subst q1 q2
        go_wp2_with fail
        refine (ex_any _).mono ?_
        rintro e w3 ⟨rfl, hb3⟩
        have hb := below_then hb hb3
        clear hb3
        go_wp2_with fail
        go_ret
        exact ⟨rfl, hb⟩
      · have e1 : ((q : Int) == (r : Int)) = false := beq_eq_false_iff_ne.2 q2
        have e2 : (a0 == a1) = false := beq_eq_false_iff_ne.2 q1
        go_wp2_with fail
        refine (ex_any _).mono ?_
        rintro e w3 ⟨rfl, hb3⟩
        have hb := below_then hb hb3
        clear hb3
        go_wp2_with fail
        go_ret
        exact ⟨rfl, hb⟩
    · rcases hqr with ⟨q1, q2⟩ | ⟨q1, q2⟩
      · subst q1 q2
        go_wp2_with fail
        refine (ex_any _).mono ?_
        rintro e w3 ⟨rfl, hb3⟩
        have hb := below_then hb hb3
        clear hb3
        go_wp2_with fail
        go_ret
        exact ⟨rfl, hb⟩
      · have e1 : ((q : Int) == (r : Int)) = false := beq_eq_false_iff_ne.2 q2
        have e2 : (a0 == a1) = false := beq_eq_false_iff_ne.2 q1
        go_wp2_with fail
        refine (ex_any _).mono ?_
        rintro e w3 ⟨rfl, hb3⟩
        have hb := below_then hb hb3
        clear hb3
        go_wp2_with fail
        go_ret
        exact ⟨rfl, hb⟩

set_option maxRecDepth 100000 in
theorem lifted (os : Os) (started : os.Started) (H : Type) (enc : TypeId × Value → H) :
    ReturnsInHanded {} Try.checked os 5 .any (Rows.mixSeedsSpec.pre6 enc Try.prog Try.f5 Rows.mixSeedsRow.domain false) (Rows.mixSeedsSpec.post enc Try.prog Try.f5 false true false false) := by
  refine returnsInHanded_of_change (C := Try.checked) own started (by kernel_rfl) Try.func5
    (ChangeSpec.witness6 (enc := enc) (C := Try.checked) false ⟨#[], #[.int .i64 0, .int .i64 0, .string ByteArray.empty, .int .i64 0], []⟩ 8 (by kernel_rfl) (by kernel_rfl) (by kernel_rfl) (by kernel_rfl)) ?_
  intro W base args ds gs before hval0 hW hcnd _
  have hval : ∀ (j : Nat) t v, Try.f5.params[j]? = some t → args[j]? = some v → Value.okWide Try.prog W .any base t v := hval0
  have hW' := hW
  obtain ⟨p, q, hA0, hV, rfl, hfz, hnd⟩ := hW
  have hA : DataW.TrodAll enc Try.prog W 0 (fun _ => true) true Try.f5.params.toList args.toList ds p := hA0
  rw [Try.params5] at hA hval
  obtain ⟨v0, vs0, d0, ds0, p0, q0, hargs, rfl, rfl, h0, r0⟩ := trodAll_cons hA
  obtain ⟨v1, vs1, d1, ds1, p1, q1, rfl, rfl, rfl, h1, r1⟩ := trodAll_cons r0
  obtain ⟨v2, vs2, d2, ds2, p2, q2, rfl, rfl, rfl, h2, r2⟩ := trodAll_cons r1
  obtain ⟨v3, vs3, d3, ds3, p3, q3, rfl, rfl, rfl, h3, r3⟩ := trodAll_cons r2
  obtain ⟨rfl, rfl, rfl⟩ := trodAll_nil r3
  obtain rfl : args = #[v0, v1, v2, v3] := by cases args; simp_all
  obtain ⟨rfl, rfl⟩ := trodVars_none hV
  obtain ⟨a0, rfl, rfl, rfl, w0⟩ := open_int Try.underlying3 (hval 0 3 v0 rfl rfl) h0
  obtain ⟨a1, rfl, rfl, rfl, w1⟩ := open_int Try.underlying3 (hval 1 3 v1 rfl rfl) h1
  obtain ⟨a2, rfl, rfl, rfl, w2⟩ := open_string Try.underlying9 (hval 2 9 v2 rfl rfl) h2
  obtain ⟨a3, rfl, rfl, rfl, w3⟩ := open_int Try.underlying3 (hval 3 3 v3 rfl rfl) h3
  clear hA0 hval0
  simp only [List.append_nil] at hW'
  refine (walk a0 a1 a2 a3 w0 w1 w2 w3 W).mono fun e W' ⟨he, hg⟩ => ?_
  subst he
  exact ⟨_, rfl, _, _, _, [], [], [], hW', (trodAll_cons_mk (shut_bool Try.underlying4 _) trodAll_mk0), (trodAll_cons_mk (shut_int Try.underlying3 w0) (trodAll_cons_mk (shut_int Try.underlying3 w1) (trodAll_cons_mk (shut_string Try.underlying9 w2) (trodAll_cons_mk (shut_int Try.underlying3 w3) trodAll_mk0)))), rfl, hg.frame _, fun h => by cases h⟩

theorem over : Rows.mixSeedsRow.holds Try.pinned (OpenSpec.ofChange Rows.mixSeedsSpec) :=
  OpenClaim.holds_of_wide 5 Try.f5 rfl rfl rfl rfl rfl rfl rfl ⟨rfl, rfl, rfl, rfl, rfl⟩ rfl rfl rfl rfl rfl (by kernel_rfl) Try.func5 (by kernel_rfl)
    (of_decide_eq_true (by kernel_rfl)) (by unfold Func.isWrapper; first | (rw [if_pos (by decide +kernel)]; kernel_rfl) | (rw [if_neg (by decide +kernel)]; exact ⟨rfl, rfl⟩))
    (fun os started H enc _ => lifted os started H enc)

theorem proved : Rows.MixSeedsSaid :=
  over
#print axioms proved
end Go.Proofs.Ytlmolmbcpignkaa.mixSeeds
