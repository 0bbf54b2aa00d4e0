/-
  The law MixBack returns true for every state and every string. No condition.
-/
import Derived.Test.YtlmolmbcpignkaaRows
import Derived.WalkKit
import Derived.ProofKit
import Derived.OpenShut
import Derived.ShutString
import Derived.Test.YtlmolmbcpignkaaMixX
import Derived.Deep.RegionHeld3
import Derived.Below
import Derived.ChangeOld
namespace Go.Proofs.Ytlmolmbcpignkaa.mixBack
open Go.ChangeShapes Go.WideShapes Go.ChangeAt Go.RowKit
open Go.ChangeMaps (open_string shut_string)
set_option linter.unusedVariables false      -- a walk need not use every 'w<i>' (that an integer argument fits its kind)

theorem own : ownKnob Try.prog.godebug = none := by kernel_rfl

set_option maxHeartbeats 8000000 in
set_option maxRecDepth 100000 in
theorem walk (a0 : Int) (a1 : ByteArray) (w0 : (Lit.int .u64 a0).wf = true) (w1 : a1.size ≤ maxLen) (w : World) :
    Calls Try.prog 4 #[.int .u64 a0, .string a1] w fun e w' => e = .returned (.bool true) ∧ Below w.heap.size w w' := by
  obtain ⟨h, rfl, hl⟩ := u64_of w0
  clear w0
  have hsz := w1
  unfold maxLen at hsz
  by_cases k0 : (300 : Int) < (a1.size : Int)
  · go_enter Try.func4, Try.ntmps4
    go_wp2_with fail
    refine (ex_any _).mono ?_
    rintro e w1 ⟨rfl, hb⟩
    go_wp2_with fail
    go_ret
    exact ⟨rfl, hb⟩
  · go_enter Try.func4, Try.ntmps4
    go_wp2_with fail
    go_loopw [5, 6] (fun v i wr => ∃ (j t : Nat), j ≤ a1.size ∧ i = .int .i64 j ∧ v = .int .u64 t ∧ t < 18446744073709551616 ∧ Hid (t = mixL h (a1.data.toList.take j)) ∧ Below w.heap.size w wr) (fun _ i _ => a1.size - (intOf i).toNat)
    case atStart => exact ⟨0, h, Nat.zero_le _, rfl, rfl, hl, rfl, Below.refl _ _⟩
    case round =>
      obtain ⟨j, t, hj, rfl, rfl, ht, hr, hb⟩ := hrel
      by_cases hlt : j < a1.size
      · obtain ⟨x, hx⟩ : ∃ x, x = a1[j] := ⟨_, rfl⟩
        have HX := Lib.hid (show mixL h (a1.data.toList.take (j + 1)) = mixB t x by
          rw [List.take_succ_eq_append_getElem (by rw [← Lib.size_eq]; exact hlt), mixL_snoc, ← hr.out, hx]; exact congrArg (mixB t) rfl)
        have HXX := Lib.hid hx
        clear hr hx
        have hc : ∀ W : World, Calls Try.prog 9 #[.int .u64 (t : Int), .int .u8 (a1[j].toNat : Int)] W fun e w' => e = .returned (.int .u64 (undoN t x : Int)) ∧ W = w' := fun W => by rw [← HXX.out]; exact undo_any t ht x W
        have hd : ∀ W : World, Calls Try.prog 7 #[.int .u64 (undoN t x : Int), .int .u8 (a1[j].toNat : Int)] W fun e w' => e = .returned (.int .u64 (t : Int)) ∧ Below W.heap.size W w' := fun W => by
          have := step_any _ (undoN_lt t x) x W
          rw [mix_undo ht x] at this
          rw [← HXX.out]; exact this
        have HC := Lib.hid hc
        have HD := Lib.hid hd
        clear hc hd
        go_wp2_with fail
        go_region_held3 (fun _ => True) (trivial) (first
          | (go_at_call 9; refine (HC.out _).mono ?_; rintro e w1 ⟨rfl, rfl⟩)
          | (go_at_call 7; refine (HD.out _).mono ?_; rintro e w1 ⟨rfl, hb1⟩))
        all_goals
          have HB2 := Lib.hid (below_then hb.drew hb1)
          clear hb1 hb
          have hb := HB2.out
          clear HB2
          go_wp2_with fail
          rw [← HXX.out]
          refine (step_any t ht x _).mono ?_
          rintro e w2 ⟨rfl, hb2⟩
          have hb := below_then hb hb2
          clear hb2
          go_wp2_with fail
          go_roundw
          case rel => exact ⟨j + 1, mixB t x, by omega, by go_num, rfl, mixB_lt t x, by rw [HX.out]; exact rfl, hb⟩
          case measure => simp [intOf]; omega
      · obtain rfl : a1.size = j := by omega
        have hlast := Lib.hid (show t = mixL h (a1.data.toList.take a1.size) from hr.out)
        clear hr
        obtain ⟨nn, hnn⟩ : ∃ nn, nn = a1.size := ⟨_, rfl⟩
        go_wp2_with fail
        go_loopw [5, 7] (fun v i ws => ∃ (j t : Nat), j ≤ a1.size ∧ i = .int .i64 ((j : Int) - 1) ∧ v = .int .u64 t ∧ t < 18446744073709551616 ∧ Hid (t = mixL h (a1.data.toList.take j)) ∧ Below w.heap.size w ws) (fun _ i _ => (intOf i + 1).toNat)
        case atStart => exact ⟨a1.size, t, Nat.le_refl _, by go_num, rfl, ht, hlast, hb⟩
        case round =>
          clear hlast ht hb hj
          obtain ⟨j, t, hj, rfl, rfl, ht, hr, hb⟩ := hrel
          rcases Nat.eq_zero_or_pos j with h0 | h0
          · subst h0
            have HT := Lib.hid (show t = h from hr.out)
            clear hr
            rw [HT.out]
            go_wp2_with fail
            refine (ex_any _).mono ?_
            rintro e w3 ⟨rfl, hb3⟩
            have hb := below_then hb hb3
            clear hb3
            go_wp2_with fail
            go_ret
            exact ⟨rfl, hb⟩
          · obtain ⟨b, rfl⟩ : ∃ b, j = b + 1 := ⟨j - 1, by omega⟩
            have hb1 : (((b + 1 : Nat) : Int)) - 1 = (b : Int) := by omega
            rw [hb1]
            have hlt : b < a1.size := by omega
            have hul := mixL_lt hl (a1.data.toList.take b)
            obtain ⟨u, hu⟩ : ∃ u, u = mixL h (a1.data.toList.take b) := ⟨_, rfl⟩
            rw [← hu] at hul
            have ht2 : t = mixB u a1[b] := by
              rw [hr.out, List.take_succ_eq_append_getElem (by rw [← Lib.size_eq]; exact hlt), mixL_snoc, ← hu]; exact congrArg (mixB u) rfl
            have HC := Lib.hid (show ∀ W : World, Calls Try.prog 9 #[.int .u64 (t : Int), .int .u8 (a1[b].toNat : Int)] W fun e w' => e = .returned (.int .u64 (u : Int)) ∧ W = w' from fun W => by
              have := undo_any t ht a1[b] W
              rw [show undoN t a1[b] = u by rw [ht2, undo_mix hul]] at this
              exact this)
            have HU := Lib.hid hu
            clear hr hu ht2
            go_wp2_with fail
            refine (HC.out _).mono ?_
            rintro e w3 ⟨rfl, rfl⟩
            go_wp2_with fail
            go_roundw
            case rel => exact ⟨b, u, by omega, by go_num, rfl, hul, HU, hb⟩
            case measure => simp [intOf] <;> omega

set_option maxRecDepth 100000 in
theorem lifted (os : Os) (started : os.Started) (H : Type) (enc : TypeId × Value → H) :
    ReturnsInHanded {} Try.checked os 4 .any (Rows.mixBackSpec.pre6 enc Try.prog Try.f4 Rows.mixBackRow.domain false) (Rows.mixBackSpec.post enc Try.prog Try.f4 false true false false) := by
  refine returnsInHanded_of_change (C := Try.checked) own started (by kernel_rfl) Try.func4
    (ChangeSpec.witness6 (enc := enc) (C := Try.checked) false ⟨#[], #[.int .u64 0, .string ByteArray.empty], []⟩ 8 (by kernel_rfl) (by kernel_rfl) (by kernel_rfl) (by kernel_rfl)) ?_
  intro W base args ds gs before hval0 hW hcnd _
  have hval : ∀ (j : Nat) t v, Try.f4.params[j]? = some t → args[j]? = some v → Value.okWide Try.prog W .any base t v := hval0
  have hW' := hW
  obtain ⟨p, q, hA0, hV, rfl, hfz, hnd⟩ := hW
  have hA : DataW.TrodAll enc Try.prog W 0 (fun _ => true) true Try.f4.params.toList args.toList ds p := hA0
  rw [Try.params4] at hA hval
  obtain ⟨v0, vs0, d0, ds0, p0, q0, hargs, rfl, rfl, h0, r0⟩ := trodAll_cons hA
  obtain ⟨v1, vs1, d1, ds1, p1, q1, rfl, rfl, rfl, h1, r1⟩ := trodAll_cons r0
  obtain ⟨rfl, rfl, rfl⟩ := trodAll_nil r1
  obtain rfl : args = #[v0, v1] := by cases args; simp_all
  obtain ⟨rfl, rfl⟩ := trodVars_none hV
  obtain ⟨a0, rfl, rfl, rfl, w0⟩ := open_int Try.underlying22 (hval 0 22 v0 rfl rfl) h0
  obtain ⟨a1, rfl, rfl, rfl, w1⟩ := open_string Try.underlying9 (hval 1 9 v1 rfl rfl) h1
  clear hA0 hval0
  simp only [List.append_nil] at hW'
  refine (walk a0 a1 w0 w1 W).mono fun e W' ⟨he, hg⟩ => ?_
  subst he
  exact ⟨_, rfl, _, _, _, [], [], [], hW', (trodAll_cons_mk (shut_bool Try.underlying4 _) trodAll_mk0), (trodAll_cons_mk (shut_int Try.underlying22 w0) (trodAll_cons_mk (shut_string Try.underlying9 w1) trodAll_mk0)), rfl, hg.frame _, fun h => by cases h⟩

theorem over : Rows.mixBackRow.holds Try.pinned (OpenSpec.ofChange Rows.mixBackSpec) :=
  OpenClaim.holds_of_wide 4 Try.f4 rfl rfl rfl rfl rfl rfl rfl ⟨rfl, rfl, rfl, rfl, rfl⟩ rfl rfl rfl rfl rfl (by kernel_rfl) Try.func4 (by kernel_rfl)
    (of_decide_eq_true (by kernel_rfl)) (by unfold Func.isWrapper; first | (rw [if_pos (by decide +kernel)]; kernel_rfl) | (rw [if_neg (by decide +kernel)]; exact ⟨rfl, rfl⟩))
    (fun os started H enc _ => lifted os started H enc)

theorem proved : Rows.MixBackSaid :=
  over
#print axioms proved
end Go.Proofs.Ytlmolmbcpignkaa.mixBack
