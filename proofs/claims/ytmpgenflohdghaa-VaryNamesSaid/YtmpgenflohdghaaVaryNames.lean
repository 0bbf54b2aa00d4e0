/-
  The law VaryNames (depotlaw15) returns true for every list of fields and leaves what it was given as it was. No condition.
-/
import Derived.Test.YtmpgenflohdghaaRows
import Derived.WalkKit
import Derived.ProofKit
import Derived.OpenShut
import Derived.ShutString
import Derived.ChangeOld
import Derived.Below
import Derived.Test.YtmpgenflohdghaaMrgA
import Derived.Test.YtmpgenflohdghaaMrgB
import Derived.Test.YtmpgenflohdghaaMrgC
import Derived.Test.YtmpgenflohdghaaMrgD
import Derived.Test.YtmpgenflohdghaaMrgE
import Derived.Test.YtmpgenflohdghaaMrgF
import Derived.Test.YtmpgenflohdghaaMrgG
import Derived.Test.YtmpgenflohdghaaMrgH
import Derived.Test.YtmpgenflohdghaaMrgI
import Derived.Test.YtmpgenflohdghaaMrgJ
import Derived.Test.YtmpgenflohdghaaMrgK
import Derived.Test.YtmpgenflohdghaaMrgL
import Derived.Test.YtmpgenflohdghaaMrgM
import Derived.Test.YtmpgenflohdghaaMrgN
import Derived.Test.YtmpgenflohdghaaMrgO
import Derived.Test.YtmpgenflohdghaaMrgP
import Derived.Test.YtmpgenflohdghaaMrgQ
import Derived.Test.YtmpgenflohdghaaMrgR
import Derived.Test.YtmpgenflohdghaaMrgS
namespace Go.Proofs.Ytmpgenflohdghaa.varyNames
open Go.ChangeShapes Go.WideShapes Go.ChangeAt Go.RowKit
open Go.ChangeMaps (open_string shut_string)
set_option linter.unusedVariables false

theorem own : ownKnob Try.prog.godebug = none := by kernel_rfl
theorem laidOut : laidOutB Try.prog = true := by kernel_rfl

set_option maxHeartbeats 8000000 in
set_option maxRecDepth 100000 in
theorem walk (a0 : Option Addr) (len0 cap0 : Nat) (z0 : List Fd) (w : World) (w0 : SlF w a0 len0 cap0 z0) :
    Calls Try.prog 3 #[.slice a0 len0 cap0] w fun e w' => e = .returned (.bool true) ∧ Below w.heap.size w w' := by
  have hlen := w0.len
  subst hlen
  have cx := fun W (_ : Below w.heap.size w W) => ex15_any W
  have CX := Lib.hid cx
  clear cx
  have HB : Hid (Below w.heap.size w w) := Below.refl _ _
  have cf := fun W (h : SlF W a0 z0.length cap0 z0) => few70 500 500 rfl a0 z0.length cap0 z0 W h
  have HF := Lib.hid w0
  cases hfw : fewB z0 70 500 with
  | false =>
    rw [hfw] at cf
    have CF := Lib.hid cf
    clear cf hfw w0
    go_enter Try.func3, Try.ntmps3
    go_wp2_with fail
    refine (CF.out _ HF.out).mono ?_
    rintro e w1 ⟨rfl, rfl⟩
    go_wp2_with fail
    refine (CX.out _ HB.out).mono ?_
    rintro e w9 ⟨rfl, hb9⟩
    go_wp2_with fail
    go_ret
    exact ⟨rfl, below_then HB.out hb9⟩
  | true =>
    rw [hfw] at cf
    have CF := Lib.hid cf
    have hfF := fwf_of hfw
    have K1 := Lib.hid (fun W (h : SlF W a0 z0.length cap0 z0) (_ : Below w.heap.size w W) => varN_any a0 cap0 z0 W h hfF)
    have K2 := Lib.hid (fun W (h : SlF W a0 z0.length cap0 z0) (_ : Below w.heap.size w W) => r_names a0 z0.length cap0 z0 W h hfF.1 (fun x hx => (hfF.2 x hx).1))
    have hnl := nam_len hfF
    have ks := fun W A B c d (h : SlS W A (namL z0).length c (namL z0)) (h' : SlS W B (namL z0).length d (namL z0)) (_ : Below w.heap.size w W) => r_sames A B _ c _ d (namL z0) (namL z0) W h h' (by omega)
    rw [show (namL z0 == namL z0) = true by simp] at ks
    have KS := Lib.hid ks
    unfold IsNm at *
    clear cf hfw w0 hfF ks hnl
    generalize namL z0 = NL at *
    generalize namB z0 = nb at *
    have e1 : (nb == nb) = true := by simp
    go_enter Try.func3, Try.ntmps3
    go_wp2_with fail
    refine (CF.out _ HF.out).mono ?_
    rintro e w1 ⟨rfl, rfl⟩
    go_wp2_with fail
    refine (K1.out _ HF.out HB.out).mono ?_
    rintro e w2 ⟨A2, c2, rfl, hS, _, hb⟩
    have HS := Lib.hid hS
    have HF := Lib.hid (HF.out.below hb)
    have HB := Lib.hid (below_then HB.out hb)
    clear hS hb
    go_wp2_with fail
    refine (K2.out _ HF.out HB.out).mono ?_
    rintro e w3 ⟨A3, c3, rfl, hS, _, hb⟩
    have HG := Lib.hid hS
    have HS := Lib.hid (HS.out.below hb)
    have HB := Lib.hid (below_then HB.out hb)
    clear hS hb
    go_wp2_with fail
    refine (KS.out _ _ _ _ _ HS.out HG.out HB.out).mono ?_
    rintro e w4 ⟨rfl, hb⟩
    have HB := Lib.hid (below_then HB.out hb)
    clear hb
    go_wp2_with fail
    refine (CX.out _ HB.out).mono ?_
    rintro e w9 ⟨rfl, hb9⟩
    go_wp2_with fail
    go_ret
    exact ⟨rfl, below_then HB.out hb9⟩

set_option maxRecDepth 100000 in
theorem lifted (os : Os) (started : os.Started) (H : Type) (enc : TypeId × Value → H) :
    ReturnsInHanded {} Try.checked os 3 .any (Rows.varyNamesSpec.pre6 enc Try.prog Try.f3 Rows.varyNamesRow.domain false) (Rows.varyNamesSpec.post enc Try.prog Try.f3 false true false false) := by
  refine returnsInHanded_of_change (C := Try.checked) own started (by kernel_rfl) Try.func3
    (ChangeSpec.witness6 (enc := enc) (C := Try.checked) false ⟨#[], #[.slice none 0 0], []⟩ 8 (by kernel_rfl) (by kernel_rfl) (by kernel_rfl) (by kernel_rfl)) ?_
  intro W base args ds gs before hval0 hW hcnd _
  have hval : ∀ (j : Nat) t v, Try.f3.params[j]? = some t → args[j]? = some v → Value.okWide Try.prog W .any base t v := hval0
  have hW' := hW
  obtain ⟨p, q, hA0, hV, rfl, hfz, hnd⟩ := hW
  have hA : DataW.TrodAll enc Try.prog W 0 (fun _ => true) true Try.f3.params.toList args.toList ds p := hA0
  rw [Try.params3] at hA hval
  obtain ⟨v0, vs0, d0, ds0, p0, q0, hargs, rfl, rfl, h0, r0⟩ := trodAll_cons hA
  obtain ⟨rfl, rfl, rfl⟩ := trodAll_nil r0
  obtain rfl : args = #[v0] := by cases args; simp_all
  obtain ⟨rfl, rfl⟩ := trodVars_none hV
  obtain ⟨a0, len0, cap0, rfl⟩ := okWide_slice Try.underlying22 (hval 0 22 v0 rfl rfl)
  have k0 := h0
  have lt0 : ∀ x ∈ p0, x.block < W.heap.size := by obtain ⟨m, hm⟩ := k0; exact DataW.trod_lt m _ _ _ hm
  obtain ⟨z0, w0⟩ := SlF.of_trod Try.underlying22 Try.underlying38 (by kernel_rfl) rfl rfl (by kernel_rfl) (by kernel_rfl) Try.underlying9 Try.underlying9 h0
  clear hA0 hval0
  refine (walk a0 len0 cap0 z0 W w0).mono fun e W' ⟨he, bel⟩ => ?_
  subst he
  exact ⟨_, rfl, _, _, _, [], _, [], hW', trodAll_mk1 (shut_bool Try.underlying4 _), (trodAll_cons_mk (Below.trod laidOut (by kernel_rfl) (of_decide_eq_true (by kernel_rfl)) k0 bel lt0) trodAll_mk0), rfl, bel.frame _, fun h => by cases h⟩

theorem over : Rows.varyNamesRow.holds Try.pinned (OpenSpec.ofChange Rows.varyNamesSpec) :=
  OpenClaim.holds_of_wide 3 Try.f3 rfl rfl rfl rfl rfl rfl rfl ⟨rfl, rfl, rfl, rfl, rfl⟩ rfl rfl rfl rfl rfl (by kernel_rfl) Try.func3 (by kernel_rfl)
    (of_decide_eq_true (by kernel_rfl)) (by unfold Func.isWrapper; first | (rw [if_pos (by decide +kernel)]; kernel_rfl) | (rw [if_neg (by decide +kernel)]; exact ⟨rfl, rfl⟩))
    (fun os started H enc _ => lifted os started H enc)

theorem proved : Rows.VaryNamesSaid := over
#print axioms proved
end Go.Proofs.Ytmpgenflohdghaa.varyNames
