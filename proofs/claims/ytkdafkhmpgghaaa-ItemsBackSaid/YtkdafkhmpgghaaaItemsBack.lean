/-
  The law ItemsBack returns true for every two texts and leaves what it was given as it was. No condition.
-/
import Derived.Test.YtkdafkhmpgghaaaRows
import Derived.WalkKit
import Derived.ProofKit
import Derived.OpenShut
import Derived.ShutString
import Derived.Test.YtkdafkhmpgghaaaItmX
import Derived.Test.YtkdafkhmpgghaaaItmY
import Derived.Below
import Derived.ChangeOld
namespace Go.Proofs.Ytkdafkhmpgghaaa.itemsBack
open Go.ChangeShapes Go.WideShapes Go.ChangeAt Go.RowKit
open Go.ChangeMaps (open_string shut_string)
set_option linter.unusedVariables false      -- a walk need not use every 'w<i>' (that an integer argument fits its kind)

theorem own : ownKnob Try.prog.godebug = none := by kernel_rfl

set_option maxHeartbeats 8000000 in
set_option maxRecDepth 100000 in
theorem walk (a0 : ByteArray) (a1 : ByteArray) (w0 : a0.size ≤ maxLen) (w1 : a1.size ≤ maxLen) (w : World) :
    Calls Try.prog 5 #[.string a0, .string a1] w fun e w' => e = .returned (.bool true) ∧ Below w.heap.size w w' := by
  by_cases k0 : (500 : Int) < (a0.size : Int) ∨ (500 : Int) < (a1.size : Int)
  · go_enter Try.func5, Try.ntmps5
    rcases Classical.em ((500 : Int) < (a0.size : Int)) with h1 | h1
    all_goals
      have k1 : (500 : Int) < (a0.size : Int) ∨ (500 : Int) < (a1.size : Int) := k0
      try have h2 : (500 : Int) < (a1.size : Int) := k0.resolve_left h1
      clear k1 k0
      go_wp2_with fail
      refine (ex_any _).mono ?_
      rintro e w2 ⟨rfl, hb2⟩
      go_wp2_with fail
      go_ret
      exact ⟨rfl, hb2⟩
  · have h1 : ¬ (500 : Int) < (a0.size : Int) := fun h => k0 (.inl h)
    have h2 : ¬ (500 : Int) < (a1.size : Int) := fun h => k0 (.inr h)
    clear k0
    obtain ⟨q, hq⟩ : ∃ q, q = mkS (quoteL a0.data.toList) := ⟨_, rfl⟩
    have hqs : q.size ≤ 1002 := by
      have := quoteL_len a0.data.toList
      rw [hq, mkS_size]
      rw [← Lib.size_eq] at this
      omega
    have hqa := fun W => quote_any a0 W (by omega)
    rw [← hq] at hqa
    have hua := fun W => unquote_any q W (by omega)
    have hub := unq_back a0.data.toList
    have hql : q.data.toList = quoteL a0.data.toList := by rw [hq, mkS_list]
    rw [hql, hub.1, hub.2, mkS_self] at hua
    have hsp := fun W => split_any q W (by omega)
    have hso : splO q.data.toList = [q.data.toList] ∧ splE q.data.toList = 0 := by
      rw [hql]
      exact spl_out _ _ (split_quote _)
    rw [hso.1, hso.2] at hsp
    have HQA := Lib.hid hqa
    have HUA := Lib.hid hua
    have HSP := Lib.hid hsp
    have HQ := Lib.hid hq
    have hps := pair_size a1 q
    clear hqa hua hub hql hsp hso hq
    obtain ⟨p, hp⟩ : ∃ p, p = a1 ++ (⟨#[61]⟩ : ByteArray) ++ q := ⟨_, rfl⟩
    rw [← hp] at hps
    have HPS : Hid (p.size ≤ 2000) := by
      show _ ≤ _
      omega
    have HT := Lib.hid (fun W => tok_any a1 W (by unfold maxLen; omega))
    have HP := Lib.hid hp
    clear hps hp
    go_enter Try.func5, Try.ntmps5
    go_wp2_with fail
    refine (HQA.out _).mono ?_
    rintro e w2 ⟨rfl, hb⟩
    go_wp2_with fail
    refine (HUA.out _).mono ?_
    rintro e w3 ⟨rfl, hb3⟩
    have hb := below_then hb hb3
    clear hb3
    go_wp2_with fail
    refine (HSP.out _).mono ?_
    rintro e w4 ⟨A, c, rfl, hA, hH, hb4⟩
    have hb := below_then hb hb4
    clear hb4
    rcases hH with rfl | ⟨g, hg, rfl⟩
    · exact absurd (hA.none_eq).2.2 (by simp)
    have hcell := hA.cells 0 _ rfl
    rw [addr_add, mkS_self] at hcell
    go_wp2_with fail
    refine (param_any (a1 ++ (⟨#[61]⟩ : ByteArray) ++ q) _ (by rw [← HP.out]; have := HPS.out; omega)).mono ?_
    rintro e w5 ⟨he, hb5⟩
    rw [← HP.out] at he
    have hb := below_then hb hb5
    clear hb5 hcell hA
    rcases Bool.eq_false_or_eq_true (isTok a1) with ht | ht
    · have hpb := par_back a1 a0 ht
      rw [← HQ.out, ← HP.out] at hpb
      rw [hpb.1, hpb.2.1, hpb.2.2.1, hpb.2.2.2] at he
      have HTT := Lib.hid ht
      obtain ⟨N, hN⟩ : ∃ N, N = mkS (lowL a1.data.toList) := ⟨_, rfl⟩
      rw [← hN] at he
      have HN := Lib.hid hN
      clear hpb ht hN
      subst he
      go_wp2_with fail
      refine (HT.out _).mono ?_
      rintro e w6 ⟨he, hb6⟩
      rw [HTT.out] at he
      subst he
      have hb := below_then hb hb6
      clear hb6
      go_wp2_with fail
      refine (lower_any a1 _ w1).mono ?_
      rintro e w7 ⟨he, hb7⟩
      rw [← HN.out] at he
      subst he
      have hb := below_then hb hb7
      clear hb7
      go_wp2_with fail
      refine (ex_any _).mono ?_
      rintro e w9 ⟨rfl, hb9⟩
      have hb := below_then hb hb9
      clear hb9
      go_wp2_with fail
      go_ret
      exact ⟨rfl, hb⟩
    · have HTT := Lib.hid ht
      have hpe := par_any p
      clear ht
      generalize parN p = N at *
      generalize parV p = V at *
      generalize parH p = H at *
      generalize parE p = E at *
      subst he
      rcases hpe with rfl | ⟨rfl, hne⟩
      all_goals
        go_wp2_with fail
        refine (HT.out _).mono ?_
        rintro e w6 ⟨he, hb6⟩
        rw [HTT.out] at he
        subst he
        have hb := below_then hb hb6
        clear hb6
        go_wp2_with fail
        refine (ex_any _).mono ?_
        rintro e w9 ⟨rfl, hb9⟩
        have hb := below_then hb hb9
        clear hb9
        go_wp2_with fail
        go_ret
        exact ⟨rfl, hb⟩

set_option maxRecDepth 100000 in
theorem lifted (os : Os) (started : os.Started) (H : Type) (enc : TypeId × Value → H) :
    ReturnsInHanded {} Try.checked os 5 .any (Rows.itemsBackSpec.pre6 enc Try.prog Try.f5 Rows.itemsBackRow.domain false) (Rows.itemsBackSpec.post enc Try.prog Try.f5 false true false false) := by
  refine returnsInHanded_of_change (C := Try.checked) own started (by kernel_rfl) Try.func5
    (ChangeSpec.witness6 (enc := enc) (C := Try.checked) false ⟨#[], #[.string ByteArray.empty, .string ByteArray.empty], []⟩ 8 (by kernel_rfl) (by kernel_rfl) (by kernel_rfl) (by kernel_rfl)) ?_
  intro W base args ds gs before hval0 hW hcnd _
  have hval : ∀ (j : Nat) t v, Try.f5.params[j]? = some t → args[j]? = some v → Value.okWide Try.prog W .any base t v := hval0
  have hW' := hW
  obtain ⟨p, q, hA0, hV, rfl, hfz, hnd⟩ := hW
  have hA : DataW.TrodAll enc Try.prog W 0 (fun _ => true) true Try.f5.params.toList args.toList ds p := hA0
  rw [Try.params5] at hA hval
  obtain ⟨v0, vs0, d0, ds0, p0, q0, hargs, rfl, rfl, h0, r0⟩ := trodAll_cons hA
  obtain ⟨v1, vs1, d1, ds1, p1, q1, rfl, rfl, rfl, h1, r1⟩ := trodAll_cons r0
  obtain ⟨rfl, rfl, rfl⟩ := trodAll_nil r1
  obtain rfl : args = #[v0, v1] := by cases args; simp_all
  obtain ⟨rfl, rfl⟩ := trodVars_none hV
  obtain ⟨a0, rfl, rfl, rfl, w0⟩ := open_string Try.underlying9 (hval 0 9 v0 rfl rfl) h0
  obtain ⟨a1, rfl, rfl, rfl, w1⟩ := open_string Try.underlying9 (hval 1 9 v1 rfl rfl) h1
  clear hA0 hval0
  simp only [List.append_nil] at hW'
  refine (walk a0 a1 w0 w1 W).mono fun e W' ⟨he, hg⟩ => ?_
  subst he
  exact ⟨_, rfl, _, _, _, [], [], [], hW', (trodAll_cons_mk (shut_bool Try.underlying4 _) trodAll_mk0), (trodAll_cons_mk (shut_string Try.underlying9 w0) (trodAll_cons_mk (shut_string Try.underlying9 w1) trodAll_mk0)), rfl, hg.frame _, fun h => by cases h⟩

theorem over : Rows.itemsBackRow.holds Try.pinned (OpenSpec.ofChange Rows.itemsBackSpec) :=
  OpenClaim.holds_of_wide 5 Try.f5 rfl rfl rfl rfl rfl rfl rfl ⟨rfl, rfl, rfl, rfl, rfl⟩ rfl rfl rfl rfl rfl (by kernel_rfl) Try.func5 (by kernel_rfl)
    (of_decide_eq_true (by kernel_rfl)) (by unfold Func.isWrapper; first | (rw [if_pos (by decide +kernel)]; kernel_rfl) | (rw [if_neg (by decide +kernel)]; exact ⟨rfl, rfl⟩))
    (fun os started H enc _ => lifted os started H enc)

theorem proved : Rows.ItemsBackSaid :=
  over
#print axioms proved
end Go.Proofs.Ytkdafkhmpgghaaa.itemsBack
