/-
  The law OctetTrims returns true for every text and every two numbers and leaves what it was given as it was. No condition.
-/
import Derived.Test.YtdgpbohidnnjfaaRows
import Derived.WalkKit
import Derived.ProofKit
import Derived.OpenShut
import Derived.ShutString
import Derived.Test.YtdgpbohidnnjfaaOctEx
import Derived.Test.YtdgpbohidnnjfaaOctE
import Derived.Below
import Derived.ChangeOld
namespace Go.Proofs.Ytdgpbohidnnjfaa.octetTrims
open Go.ChangeShapes Go.WideShapes Go.ChangeAt Go.RowKit
open Go.ChangeMaps (open_string shut_string)
set_option linter.unusedVariables false      -- a walk need not use every 'w<i>' (that an integer argument fits its kind)

theorem own : ownKnob Try.prog.godebug = none := by kernel_rfl

theorem walk (a0 : ByteArray) (a1 : Int) (a2 : Int) (w0 : a0.size ≤ maxLen) (w1 : (Lit.int .i64 a1).wf = true) (w2 : (Lit.int .i64 a2).wf = true) (w : World) :
    Calls Try.prog 6 #[.string a0, .int .i64 a1, .int .i64 a2] w fun e w' => e = .returned (.bool true) ∧ Below w.heap.size w w' := by
  by_cases k0 : a0.size > 1000
  · have k0' : (1000 : Int) < (a0.size : Int) := by omega
    go_enter Try.func6, Try.ntmps6
    have hb := Below.refl w.heap.size w
    go_wp2_with fail
    refine (ex_any _).mono ?_
    rintro e w2 ⟨he, hb2⟩
    have hb := below_then hb hb2
    clear hb2
    subst he
    go_wp2_with fail
    go_ret
    exact ⟨rfl, hb⟩
  · have k0' : ¬ (1000 : Int) < (a0.size : Int) := by omega
    obtain ⟨t, ht⟩ : ∃ t, mkS (trimL a0.data.toList) = t := ⟨_, rfl⟩
    have hE : Hid (Edge t.data.toList) := by
      subst ht
      exact trim_edge _
    have hts : t.size ≤ 1000 := by
      subst ht
      rw [mkS_size]
      have h1 := (rdw_prefix (a0.data.toList.dropWhile blkU)).length_le
      have h2 := (List.dropWhile_suffix blkU (l := a0.data.toList)).length_le
      rw [← Lib.size_eq] at h2
      show (rdw _).length ≤ _
      omega
    have htt : Hid (mkS (trimL t.data.toList) = t) := by
      show _ = _
      rw [trim_of_edge hE.out, mkS_self]
    have HT := Lib.hid ht
    clear ht
    obtain ⟨q1, q2⟩ := tmod9 a1
    obtain ⟨q3, q4⟩ := tmod9 a2
    have hb := Below.refl w.heap.size w
    go_enter Try.func6, Try.ntmps6
    go_wp2_with fail
    refine (trim_any a0 _ w0).mono ?_
    rintro e w2 ⟨he, hb2⟩
    have hb := below_then hb hb2
    clear hb2
    rw [HT.out] at he
    subst he
    go_wp2_with fail
    refine (trim_any t _ (by unfold maxLen; omega)).mono ?_
    rintro e w3 ⟨he, hb3⟩
    have hb := below_then hb hb3
    clear hb3
    rw [htt.out] at he
    subst he
    by_cases h0 : 0 < t.size
    · obtain ⟨f1, f2⟩ := not_blank (edge_first hE.out h0)
      obtain ⟨j, hj⟩ : ∃ j, t.size = j + 1 := ⟨t.size - 1, by omega⟩
      have hjl : j < t.size := by omega
      have f34 : ((t[j]'hjl).toNat == (32 : Int)) = false ∧ ((t[j]'hjl).toNat == (9 : Int)) = false := not_blank (edge_last hE.out j hj)
      obtain ⟨f3, f4⟩ := f34
      have hix : (t.size : Int) - 1 = (j : Int) := by omega
      clear hj
      go_wp2_with fail
      clear f1 f2 f3 f4 hix
      go_loop [8, 9] (fun v i => ∃ (k : Nat) (x : ByteArray), k ≤ 9 ∧ i = .int .i64 k ∧ v = .string x ∧ x.size ≤ 1000 + k ∧ Hid (x.data.toList = List.replicate k 32 ++ t.data.toList)) (fun _ i => 9 - (intOf i).toNat)
      case atStart => exact ⟨0, t, by omega, rfl, rfl, by omega, rfl⟩
      case round =>
        obtain ⟨k, x, hk, rfl, rfl, hx, hg⟩ := hrel
        by_cases hm : (k : Int) < a1.tmod 9 % 9
        · have HG : Hid (((⟨#[32]⟩ : ByteArray) ++ x).data.toList = List.replicate (k + 1) 32 ++ t.data.toList) := by
            show _ = _
            rw [pre_list, hg.out]; rfl
          have hsz : ((⟨#[32]⟩ : ByteArray) ++ x).size ≤ 1000 + (k + 1) := by rw [pre_size]; omega
          clear hg
          go_wp2
          go_round
          case rel => exact ⟨k + 1, _, by omega, by go_num, rfl, hsz, HG⟩
          case measure => simp [intOf]; omega
        · go_wp2_with fail
          go_loop [8, 10] (fun v i => ∃ (j : Nat) (y : ByteArray), j ≤ 9 ∧ i = .int .i64 j ∧ v = .string y ∧ y.size ≤ 1009 + j ∧ Hid (y.data.toList = List.replicate k 32 ++ t.data.toList ++ List.replicate j 9)) (fun _ i => 9 - (intOf i).toNat)
          case atStart => exact ⟨0, x, by omega, rfl, rfl, by omega, by show _ = _; rw [hg.out]; simp⟩
          case round =>
            clear hg
            obtain ⟨j, y, hj, rfl, rfl, hy, hl⟩ := hrel
            by_cases hn : (j : Int) < a2.tmod 9 % 9
            · have HG : Hid ((y ++ (⟨#[9]⟩ : ByteArray)).data.toList = List.replicate k 32 ++ t.data.toList ++ List.replicate (j + 1) 9) := by
                show _ = _
                rw [post_list, hl.out, List.replicate_succ', List.append_assoc _ _ [9]]
              have hsz : (y ++ (⟨#[9]⟩ : ByteArray)).size ≤ 1009 + (j + 1) := by rw [post_size]; omega
              clear hl
              go_wp2
              go_round
              case rel => exact ⟨j + 1, _, by omega, by go_num, rfl, hsz, HG⟩
              case measure => simp [intOf]; omega
            · have HY : Hid (mkS (trimL y.data.toList) = t) := by
                show _ = _
                rw [hl.out, trim_pad hE.out, mkS_self]
              clear hl
              go_wp2_with fail
              refine (trim_any y _ (by unfold maxLen; omega)).mono ?_
              rintro e w4 ⟨he, hb4⟩
              have hb := below_then hb hb4
              clear hb4
              rw [HY.out] at he
              subst he
              go_wp2_with fail
              refine (ex_any _).mono ?_
              rintro e w5 ⟨he, hb5⟩
              have hb := below_then hb hb5
              clear hb5
              subst he
              go_wp2_with fail
              go_ret
              exact ⟨rfl, hb⟩
    · go_wp2_with fail
      go_loop [8, 9] (fun v i => ∃ (k : Nat) (x : ByteArray), k ≤ 9 ∧ i = .int .i64 k ∧ v = .string x ∧ x.size ≤ 1000 + k ∧ Hid (x.data.toList = List.replicate k 32 ++ t.data.toList)) (fun _ i => 9 - (intOf i).toNat)
      case atStart => exact ⟨0, t, by omega, rfl, rfl, by omega, rfl⟩
      case round =>
        obtain ⟨k, x, hk, rfl, rfl, hx, hg⟩ := hrel
        by_cases hm : (k : Int) < a1.tmod 9 % 9
        · have HG : Hid (((⟨#[32]⟩ : ByteArray) ++ x).data.toList = List.replicate (k + 1) 32 ++ t.data.toList) := by
            show _ = _
            rw [pre_list, hg.out]; rfl
          have hsz : ((⟨#[32]⟩ : ByteArray) ++ x).size ≤ 1000 + (k + 1) := by rw [pre_size]; omega
          clear hg
          go_wp2
          go_round
          case rel => exact ⟨k + 1, _, by omega, by go_num, rfl, hsz, HG⟩
          case measure => simp [intOf]; omega
        · go_wp2_with fail
          go_loop [8, 10] (fun v i => ∃ (j : Nat) (y : ByteArray), j ≤ 9 ∧ i = .int .i64 j ∧ v = .string y ∧ y.size ≤ 1009 + j ∧ Hid (y.data.toList = List.replicate k 32 ++ t.data.toList ++ List.replicate j 9)) (fun _ i => 9 - (intOf i).toNat)
          case atStart => exact ⟨0, x, by omega, rfl, rfl, by omega, by show _ = _; rw [hg.out]; simp⟩
          case round =>
            clear hg
            obtain ⟨j, y, hj, rfl, rfl, hy, hl⟩ := hrel
            by_cases hn : (j : Int) < a2.tmod 9 % 9
            · have HG : Hid ((y ++ (⟨#[9]⟩ : ByteArray)).data.toList = List.replicate k 32 ++ t.data.toList ++ List.replicate (j + 1) 9) := by
                show _ = _
                rw [post_list, hl.out, List.replicate_succ', List.append_assoc _ _ [9]]
              have hsz : (y ++ (⟨#[9]⟩ : ByteArray)).size ≤ 1009 + (j + 1) := by rw [post_size]; omega
              clear hl
              go_wp2
              go_round
              case rel => exact ⟨j + 1, _, by omega, by go_num, rfl, hsz, HG⟩
              case measure => simp [intOf]; omega
            · have HY : Hid (mkS (trimL y.data.toList) = t) := by
                show _ = _
                rw [hl.out, trim_pad hE.out, mkS_self]
              clear hl
              go_wp2_with fail
              refine (trim_any y _ (by unfold maxLen; omega)).mono ?_
              rintro e w4 ⟨he, hb4⟩
              have hb := below_then hb hb4
              clear hb4
              rw [HY.out] at he
              subst he
              go_wp2_with fail
              refine (ex_any _).mono ?_
              rintro e w5 ⟨he, hb5⟩
              have hb := below_then hb hb5
              clear hb5
              subst he
              go_wp2_with fail
              go_ret
              exact ⟨rfl, hb⟩

set_option maxRecDepth 100000 in
theorem lifted (os : Os) (started : os.Started) (H : Type) (enc : TypeId × Value → H) :
    ReturnsInHanded {} Try.checked os 6 .any (Rows.octetTrimsSpec.pre6 enc Try.prog Try.f6 Rows.octetTrimsRow.domain false) (Rows.octetTrimsSpec.post enc Try.prog Try.f6 false true false false) := by
  refine returnsInHanded_of_change (C := Try.checked) own started (by kernel_rfl) Try.func6
    (ChangeSpec.witness6 (enc := enc) (C := Try.checked) false ⟨#[], #[.string ByteArray.empty, .int .i64 0, .int .i64 0], []⟩ 8 (by kernel_rfl) (by kernel_rfl) (by kernel_rfl) (by kernel_rfl)) ?_
  intro W base args ds gs before hval0 hW hcnd _
  have hval : ∀ (j : Nat) t v, Try.f6.params[j]? = some t → args[j]? = some v → Value.okWide Try.prog W .any base t v := hval0
  have hW' := hW
  obtain ⟨p, q, hA0, hV, rfl, hfz, hnd⟩ := hW
  have hA : DataW.TrodAll enc Try.prog W 0 (fun _ => true) true Try.f6.params.toList args.toList ds p := hA0
  rw [Try.params6] at hA hval
  obtain ⟨v0, vs0, d0, ds0, p0, q0, hargs, rfl, rfl, h0, r0⟩ := trodAll_cons hA
  obtain ⟨v1, vs1, d1, ds1, p1, q1, rfl, rfl, rfl, h1, r1⟩ := trodAll_cons r0
  obtain ⟨v2, vs2, d2, ds2, p2, q2, rfl, rfl, rfl, h2, r2⟩ := trodAll_cons r1
  obtain ⟨rfl, rfl, rfl⟩ := trodAll_nil r2
  obtain rfl : args = #[v0, v1, v2] := by cases args; simp_all
  obtain ⟨rfl, rfl⟩ := trodVars_none hV
  obtain ⟨a0, rfl, rfl, rfl, w0⟩ := open_string Try.underlying9 (hval 0 9 v0 rfl rfl) h0
  obtain ⟨a1, rfl, rfl, rfl, w1⟩ := open_int Try.underlying3 (hval 1 3 v1 rfl rfl) h1
  obtain ⟨a2, rfl, rfl, rfl, w2⟩ := open_int Try.underlying3 (hval 2 3 v2 rfl rfl) h2
  clear hA0 hval0
  simp only [List.append_nil] at hW'
  refine (walk a0 a1 a2 w0 w1 w2 W).mono fun e W' ⟨he, hg⟩ => ?_
  subst he
  exact ⟨_, rfl, _, _, _, [], [], [], hW', (trodAll_cons_mk (shut_bool Try.underlying4 _) trodAll_mk0), (trodAll_cons_mk (shut_string Try.underlying9 w0) (trodAll_cons_mk (shut_int Try.underlying3 w1) (trodAll_cons_mk (shut_int Try.underlying3 w2) trodAll_mk0))), rfl, hg.frame _, fun h => by cases h⟩

theorem over : Rows.octetTrimsRow.holds Try.pinned (OpenSpec.ofChange Rows.octetTrimsSpec) :=
  OpenClaim.holds_of_wide 6 Try.f6 rfl rfl rfl rfl rfl rfl rfl ⟨rfl, rfl, rfl, rfl, rfl⟩ rfl rfl rfl rfl rfl (by kernel_rfl) Try.func6 (by kernel_rfl)
    (of_decide_eq_true (by kernel_rfl)) (by unfold Func.isWrapper; first | (rw [if_pos (by decide +kernel)]; kernel_rfl) | (rw [if_neg (by decide +kernel)]; exact ⟨rfl, rfl⟩))
    (fun os started H enc _ => lifted os started H enc)

theorem proved : Rows.OctetTrimsSaid :=
  over
#print axioms proved
end Go.Proofs.Ytdgpbohidnnjfaa.octetTrims
