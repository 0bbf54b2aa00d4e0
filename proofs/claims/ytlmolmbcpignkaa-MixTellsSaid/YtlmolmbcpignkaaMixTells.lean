/-
  The law MixTells returns true for every state, byte, seed, string and number of sets. No condition.
-/
import Derived.Test.YtlmolmbcpignkaaRows
import Derived.WalkKit
import Derived.ProofKit
import Derived.OpenShut
import Derived.ShutString
import Derived.Test.YtlmolmbcpignkaaMixX
import Derived.Below
import Derived.ChangeOld
namespace Go.Proofs.Ytlmolmbcpignkaa.mixTells
open Go.ChangeShapes Go.WideShapes Go.ChangeAt Go.RowKit
open Go.ChangeMaps (open_string shut_string)
set_option linter.unusedVariables false      -- a walk need not use every 'w<i>' (that an integer argument fits its kind)

theorem own : ownKnob Try.prog.godebug = none := by kernel_rfl

set_option maxHeartbeats 8000000 in
set_option maxRecDepth 100000 in
theorem walk (a0 : Int) (a1 : Int) (a2 : Int) (a3 : ByteArray) (a4 : Int) (w0 : (Lit.int .u64 a0).wf = true) (w1 : (Lit.int .u8 a1).wf = true) (w2 : (Lit.int .i64 a2).wf = true) (w3 : a3.size ≤ maxLen) (w4 : (Lit.int .i64 a4).wf = true) (w : World) :
    Calls Try.prog 3 #[.int .u64 a0, .int .u8 a1, .int .i64 a2, .string a3, .int .i64 a4] w fun e w' => e = .returned (.bool true) ∧ Below w.heap.size w w' := by
  obtain ⟨h, rfl, hl⟩ := u64_of w0
  obtain ⟨x, rfl⟩ := byte_of w1
  obtain ⟨b20, b21⟩ := wf_i64 w2
  obtain ⟨b40, b41⟩ := wf_i64 w4
  clear w0 w1 w2 w4
  have hsz := w3
  unfold maxLen at hsz
  by_cases k0 : (1000 : Int) < (a3.size : Int)
  · go_enter Try.func3, Try.ntmps3
    go_wp2_with fail
    refine (ex_any _).mono ?_
    rintro e w1 ⟨rfl, hb⟩
    go_wp2_with fail
    go_ret
    exact ⟨rfl, hb⟩
  · obtain ⟨m, hm⟩ : ∃ m, m = mixB h x := ⟨_, rfl⟩
    obtain ⟨u, hu⟩ : ∃ u, u = undoN h x := ⟨_, rfl⟩
    obtain ⟨q, hq⟩ : ∃ q, q = hashN a2 a3.data.toList := ⟨_, rfl⟩
    obtain ⟨n, hn⟩ : ∃ n, n = setN h a4 := ⟨_, rfl⟩
    obtain ⟨p, hp⟩ : ∃ p, p = h / 281474976710656 := ⟨_, rfl⟩
    have HM := Lib.hid hm
    have HU := Lib.hid hu
    have HQ := Lib.hid hq
    have HN := Lib.hid hn
    have HP := Lib.hid hp
    clear hm hu hq hn hp
    go_enter Try.func3, Try.ntmps3
    go_wp2_with fail
    refine (step_any h hl x _).mono ?_
    rintro e w1 ⟨he, hb⟩
    rw [← HM.out] at he
    subst he
    go_wp2_with fail
    refine (rstep_any h hl x _).mono ?_
    rintro e w2 ⟨he, rfl⟩
    rw [← HM.out] at he
    subst he
    go_wp2_with fail
    refine (undo_any h hl x _).mono ?_
    rintro e w2 ⟨he, rfl⟩
    rw [← HU.out] at he
    subst he
    go_wp2_with fail
    refine (rundo_any h hl x _).mono ?_
    rintro e w2 ⟨he, rfl⟩
    rw [← HU.out] at he
    subst he
    go_wp2_with fail
    refine (hash_any a2 a3 w3 _).mono ?_
    rintro e w2 ⟨he, hb2⟩
    rw [← HQ.out] at he
    subst he
    have hb := below_then hb hb2
    clear hb2
    go_wp2_with fail
    refine (rhash_any a2 a3 w3 _).mono ?_
    rintro e w3 ⟨he, rfl⟩
    rw [← HQ.out] at he
    subst he
    go_wp2_with fail
    refine (set_any h hl a4 b41 _).mono ?_
    rintro e w3 ⟨he, rfl⟩
    rw [← HN.out] at he
    subst he
    go_wp2_with fail
    refine (rset_any h hl a4 b41 _).mono ?_
    rintro e w3 ⟨he, rfl⟩
    rw [← HN.out] at he
    subst he
    go_wp2_with fail
    refine (part_any h hl _).mono ?_
    rintro e w3 ⟨he, rfl⟩
    rw [← HP.out] at he
    subst he
    go_wp2_with fail
    refine (rpart_any h hl _).mono ?_
    rintro e w3 ⟨he, rfl⟩
    rw [← HP.out] at he
    subst he
    go_wp2_with fail
    refine (ex_any _).mono ?_
    rintro e w3 ⟨rfl, hb3⟩
    have hb := below_then hb hb3
    clear hb3
    go_wp2_with fail
    go_ret
    exact ⟨rfl, hb⟩

set_option maxRecDepth 100000 in
theorem lifted (os : Os) (started : os.Started) (H : Type) (enc : TypeId × Value → H) :
    ReturnsInHanded {} Try.checked os 3 .any (Rows.mixTellsSpec.pre6 enc Try.prog Try.f3 Rows.mixTellsRow.domain false) (Rows.mixTellsSpec.post enc Try.prog Try.f3 false true false false) := by
  refine returnsInHanded_of_change (C := Try.checked) own started (by kernel_rfl) Try.func3
    (ChangeSpec.witness6 (enc := enc) (C := Try.checked) false ⟨#[], #[.int .u64 0, .int .u8 0, .int .i64 0, .string ByteArray.empty, .int .i64 0], []⟩ 8 (by kernel_rfl) (by kernel_rfl) (by kernel_rfl) (by kernel_rfl)) ?_
  intro W base args ds gs before hval0 hW hcnd _
  have hval : ∀ (j : Nat) t v, Try.f3.params[j]? = some t → args[j]? = some v → Value.okWide Try.prog W .any base t v := hval0
  have hW' := hW
  obtain ⟨p, q, hA0, hV, rfl, hfz, hnd⟩ := hW
  have hA : DataW.TrodAll enc Try.prog W 0 (fun _ => true) true Try.f3.params.toList args.toList ds p := hA0
  rw [Try.params3] at hA hval
  obtain ⟨v0, vs0, d0, ds0, p0, q0, hargs, rfl, rfl, h0, r0⟩ := trodAll_cons hA
  obtain ⟨v1, vs1, d1, ds1, p1, q1, rfl, rfl, rfl, h1, r1⟩ := trodAll_cons r0
  obtain ⟨v2, vs2, d2, ds2, p2, q2, rfl, rfl, rfl, h2, r2⟩ := trodAll_cons r1
  obtain ⟨v3, vs3, d3, ds3, p3, q3, rfl, rfl, rfl, h3, r3⟩ := trodAll_cons r2
  obtain ⟨v4, vs4, d4, ds4, p4, q4, rfl, rfl, rfl, h4, r4⟩ := trodAll_cons r3
  obtain ⟨rfl, rfl, rfl⟩ := trodAll_nil r4
  obtain rfl : args = #[v0, v1, v2, v3, v4] := by cases args; simp_all
  obtain ⟨rfl, rfl⟩ := trodVars_none hV
  obtain ⟨a0, rfl, rfl, rfl, w0⟩ := open_int Try.underlying22 (hval 0 22 v0 rfl rfl) h0
  obtain ⟨a1, rfl, rfl, rfl, w1⟩ := open_int Try.underlying5 (hval 1 5 v1 rfl rfl) h1
  obtain ⟨a2, rfl, rfl, rfl, w2⟩ := open_int Try.underlying3 (hval 2 3 v2 rfl rfl) h2
  obtain ⟨a3, rfl, rfl, rfl, w3⟩ := open_string Try.underlying9 (hval 3 9 v3 rfl rfl) h3
  obtain ⟨a4, rfl, rfl, rfl, w4⟩ := open_int Try.underlying3 (hval 4 3 v4 rfl rfl) h4
  clear hA0 hval0
  simp only [List.append_nil] at hW'
  refine (walk a0 a1 a2 a3 a4 w0 w1 w2 w3 w4 W).mono fun e W' ⟨he, hg⟩ => ?_
  subst he
  exact ⟨_, rfl, _, _, _, [], [], [], hW', (trodAll_cons_mk (shut_bool Try.underlying4 _) trodAll_mk0), (trodAll_cons_mk (shut_int Try.underlying22 w0) (trodAll_cons_mk (shut_int Try.underlying5 w1) (trodAll_cons_mk (shut_int Try.underlying3 w2) (trodAll_cons_mk (shut_string Try.underlying9 w3) (trodAll_cons_mk (shut_int Try.underlying3 w4) trodAll_mk0))))), rfl, hg.frame _, fun h => by cases h⟩

theorem over : Rows.mixTellsRow.holds Try.pinned (OpenSpec.ofChange Rows.mixTellsSpec) :=
  OpenClaim.holds_of_wide 3 Try.f3 rfl rfl rfl rfl rfl rfl rfl ⟨rfl, rfl, rfl, rfl, rfl⟩ rfl rfl rfl rfl rfl (by kernel_rfl) Try.func3 (by kernel_rfl)
    (of_decide_eq_true (by kernel_rfl)) (by unfold Func.isWrapper; first | (rw [if_pos (by decide +kernel)]; kernel_rfl) | (rw [if_neg (by decide +kernel)]; exact ⟨rfl, rfl⟩))
    (fun os started H enc _ => lifted os started H enc)

theorem proved : Rows.MixTellsSaid :=
  over
#print axioms proved
end Go.Proofs.Ytlmolmbcpignkaa.mixTells
