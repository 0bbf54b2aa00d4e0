/-
  The law OctetParts returns true for every text and every byte and leaves what it was given as it was. No condition.
-/
import Derived.Test.YtdgpbohidnnjfaaRows
import Derived.WalkKit
import Derived.ProofKit
import Derived.OpenShut
import Derived.ShutString
import Derived.Test.YtdgpbohidnnjfaaOctEx
import Derived.Test.YtdgpbohidnnjfaaOctE
import Derived.Below
import Derived.ChangeOld
namespace Go.Proofs.Ytdgpbohidnnjfaa.octetParts
open Go.ChangeShapes Go.WideShapes Go.ChangeAt Go.RowKit
open Go.ChangeMaps (open_string shut_string)
set_option linter.unusedVariables false      -- a walk need not use every 'w<i>' (that an integer argument fits its kind)

theorem own : ownKnob Try.prog.godebug = none := by kernel_rfl

theorem walk (a0 : ByteArray) (a1 : Int) (w0 : a0.size ≤ maxLen) (w1 : (Lit.int .u8 a1).wf = true) (w : World) :
    Calls Try.prog 7 #[.string a0, .int .u8 a1] w fun e w' => e = .returned (.bool true) ∧ Below w.heap.size w w' := by
  obtain ⟨b0, b1⟩ := wf_byte w1
  by_cases k0 : a0.size > 1000
  · have k0' : (1000 : Int) < (a0.size : Int) := by omega
    go_enter Try.func7, Try.ntmps7
    have hb := Below.refl w.heap.size w
    go_wp2_with fail
    refine (ex_any _).mono ?_
    rintro e w2 ⟨he, hb2⟩
    have hb := below_then hb hb2
    clear hb2
    subst he
    go_wp2_with fail
    go_ret
    exact ⟨rfl, hb⟩
  · have k0' : ¬ (1000 : Int) < (a0.size : Int) := by omega
    rcases idx_cases a0 a1 b0 b1 with ⟨hi, hn⟩ | ⟨i, hi, hlt, he1, hn⟩
    · have HC := Lib.hid (cut_miss hi)
      have HN := Lib.hid hn
      clear hi hn
      have hb := Below.refl w.heap.size w
      go_enter Try.func7, Try.ntmps7
      go_wp2_with fail
      refine (cut_any a0 a1 _ w0 b0 b1).mono ?_
      rintro e w2 ⟨he, hb2⟩
      have hb := below_then hb hb2
      clear hb2
      rw [HC.out.1, HC.out.2.1, HC.out.2.2] at he
      subst he
      go_wp2_with fail
      go_loop [8] (fun i => ∃ k : Nat, k ≤ a0.size ∧ i = .int .i64 k) (fun i => a0.size - (intOf i).toNat)
      case atStart => exact ⟨0, by omega, rfl⟩
      case round =>
        obtain ⟨k, hk, rfl⟩ := hrel
        by_cases hm : k < a0.size
        · have hne : ((a0[k].toNat : Int) == a1) = false := by simpa using HN.out k hm
          go_wp2
          go_round
          case rel => exact ⟨k + 1, by omega, by go_num⟩
          case measure => simp [intOf]; omega
        · go_wp2_with fail
          refine (ex_any _).mono ?_
          rintro e w5 ⟨he, hb5⟩
          have hb := below_then hb hb5
          clear hb5
          subst he
          go_wp2_with fail
          go_ret
          exact ⟨rfl, hb⟩
    · subst he1
      have HC := Lib.hid (cut_hit hi)
      have HJ := cut_joins a0 i hlt
      have HN : Hid (∀ (k : Nat) (hk : k < (a0.extract 0 i).size), (((a0.extract 0 i)[k].toNat : Int) == (a0[i].toNat : Int)) = false) := by
        intro k hk
        have hk2 : k < i := by rw [ByteArray.size_extract] at hk; omega
        have := hn k hk2
        rw [ByteArray.getElem_extract]
        simpa using this
      clear hi hn
      have hb := Below.refl w.heap.size w
      have hsx : (a0.extract 0 i).size = i := by rw [ByteArray.size_extract]; omega
      have HX := Lib.hid hsx
      clear hsx
      go_enter Try.func7, Try.ntmps7
      go_wp2_with fail
      refine (cut_any a0 _ _ w0 b0 b1).mono ?_
      rintro e w2 ⟨he, hb2⟩
      have hb := below_then hb hb2
      clear hb2
      rw [HC.out.1, HC.out.2.1, HC.out.2.2] at he
      subst he
      go_wp2_with fail
      go_loop [8] (fun v => ∃ k : Nat, k ≤ i ∧ v = .int .i64 k) (fun v => i - (intOf v).toNat)
      case atStart => exact ⟨0, by omega, rfl⟩
      case round =>
        obtain ⟨k, hk, rfl⟩ := hrel
        by_cases hm : k < i
        · have hne := HN.out k (by rw [HX.out]; exact hm)
          go_wp2
          go_round
          case rel => exact ⟨k + 1, by omega, by go_num⟩
          case measure => simp [intOf]; omega
        · have kb : (convert 33 9 (.slice (some ⟨w2.heap.size, 0, none⟩) 1 1)).run Try.prog (w2.alloc (.cells #[.int .u8 (a0[i].toNat : Int)] 5)) = .ok (.string ⟨#[a0[i]]⟩) (w2.alloc (.cells #[.int .u8 (a0[i].toNat : Int)] 5)) :=
            run_convert_bytes_back (P := Try.prog) _ 33 9 5 ⟨w2.heap.size, 0, none⟩ 1 [a0[i]] Try.underlying33 Try.underlying5 Try.underlying9
              (fun j hj => by
                obtain rfl : j = 0 := by simpa using hj
                exact World.cell?_alloc_mark w2 _ _ _ 0)
          go_wp2_with fail
          refine (ex_any _).mono ?_
          rintro e w5 ⟨he, hb5⟩
          have hb := below_then (hb.alloc hb.size _) hb5
          clear hb5
          subst he
          go_wp2_with fail
          go_ret
          exact ⟨rfl, hb⟩

set_option maxRecDepth 100000 in
theorem lifted (os : Os) (started : os.Started) (H : Type) (enc : TypeId × Value → H) :
    ReturnsInHanded {} Try.checked os 7 .any (Rows.octetPartsSpec.pre6 enc Try.prog Try.f7 Rows.octetPartsRow.domain false) (Rows.octetPartsSpec.post enc Try.prog Try.f7 false true false false) := by
  refine returnsInHanded_of_change (C := Try.checked) own started (by kernel_rfl) Try.func7
    (ChangeSpec.witness6 (enc := enc) (C := Try.checked) false ⟨#[], #[.string ByteArray.empty, .int .u8 0], []⟩ 8 (by kernel_rfl) (by kernel_rfl) (by kernel_rfl) (by kernel_rfl)) ?_
  intro W base args ds gs before hval0 hW hcnd _
  have hval : ∀ (j : Nat) t v, Try.f7.params[j]? = some t → args[j]? = some v → Value.okWide Try.prog W .any base t v := hval0
  have hW' := hW
  obtain ⟨p, q, hA0, hV, rfl, hfz, hnd⟩ := hW
  have hA : DataW.TrodAll enc Try.prog W 0 (fun _ => true) true Try.f7.params.toList args.toList ds p := hA0
  rw [Try.params7] at hA hval
  obtain ⟨v0, vs0, d0, ds0, p0, q0, hargs, rfl, rfl, h0, r0⟩ := trodAll_cons hA
  obtain ⟨v1, vs1, d1, ds1, p1, q1, rfl, rfl, rfl, h1, r1⟩ := trodAll_cons r0
  obtain ⟨rfl, rfl, rfl⟩ := trodAll_nil r1
  obtain rfl : args = #[v0, v1] := by cases args; simp_all
  obtain ⟨rfl, rfl⟩ := trodVars_none hV
  obtain ⟨a0, rfl, rfl, rfl, w0⟩ := open_string Try.underlying9 (hval 0 9 v0 rfl rfl) h0
  obtain ⟨a1, rfl, rfl, rfl, w1⟩ := open_int Try.underlying5 (hval 1 5 v1 rfl rfl) h1
  clear hA0 hval0
  simp only [List.append_nil] at hW'
  refine (walk a0 a1 w0 w1 W).mono fun e W' ⟨he, hg⟩ => ?_
  subst he
  exact ⟨_, rfl, _, _, _, [], [], [], hW', (trodAll_cons_mk (shut_bool Try.underlying4 _) trodAll_mk0), (trodAll_cons_mk (shut_string Try.underlying9 w0) (trodAll_cons_mk (shut_int Try.underlying5 w1) trodAll_mk0)), rfl, hg.frame _, fun h => by cases h⟩

theorem over : Rows.octetPartsRow.holds Try.pinned (OpenSpec.ofChange Rows.octetPartsSpec) :=
  OpenClaim.holds_of_wide 7 Try.f7 rfl rfl rfl rfl rfl rfl rfl ⟨rfl, rfl, rfl, rfl, rfl⟩ rfl rfl rfl rfl rfl (by kernel_rfl) Try.func7 (by kernel_rfl)
    (of_decide_eq_true (by kernel_rfl)) (by unfold Func.isWrapper; first | (rw [if_pos (by decide +kernel)]; kernel_rfl) | (rw [if_neg (by decide +kernel)]; exact ⟨rfl, rfl⟩))
    (fun os started H enc _ => lifted os started H enc)

theorem proved : Rows.OctetPartsSaid :=
  over
#print axioms proved
end Go.Proofs.Ytdgpbohidnnjfaa.octetParts
