/-
  The law VaryPicks (depotlaw15) returns true for every list of names, of fields and of picks, and leaves what it was given as it was. No condition.
-/
import Derived.Test.YtmpgenflohdghaaRows
import Derived.WalkKit
import Derived.ProofKit
import Derived.OpenShut
import Derived.ShutString
import Derived.ChangeOld
import Derived.Below
import Derived.Test.YtmpgenflohdghaaMrgA
import Derived.Test.YtmpgenflohdghaaMrgB
import Derived.Test.YtmpgenflohdghaaMrgC
import Derived.Test.YtmpgenflohdghaaMrgD
import Derived.Test.YtmpgenflohdghaaMrgE
import Derived.Test.YtmpgenflohdghaaMrgF
import Derived.Test.YtmpgenflohdghaaMrgG
import Derived.Test.YtmpgenflohdghaaMrgH
import Derived.Test.YtmpgenflohdghaaMrgI
import Derived.Test.YtmpgenflohdghaaMrgJ
import Derived.Test.YtmpgenflohdghaaMrgK
import Derived.Test.YtmpgenflohdghaaMrgL
import Derived.Test.YtmpgenflohdghaaMrgM
import Derived.Test.YtmpgenflohdghaaMrgN
import Derived.Test.YtmpgenflohdghaaMrgO
import Derived.Test.YtmpgenflohdghaaMrgP
import Derived.Test.YtmpgenflohdghaaMrgQ
import Derived.Test.YtmpgenflohdghaaMrgR
import Derived.Test.YtmpgenflohdghaaMrgS
import Derived.SliceStrings
namespace Go.Proofs.Ytmpgenflohdghaa.varyPicks
open Go.ChangeShapes Go.WideShapes Go.ChangeAt Go.RowKit
open Go.ChangeMaps (open_string shut_string)
set_option linter.unusedVariables false

theorem own : ownKnob Try.prog.godebug = none := by kernel_rfl
theorem laidOut : laidOutB Try.prog = true := by kernel_rfl

set_option maxHeartbeats 8000000 in
set_option maxRecDepth 100000 in
theorem walk (a0 : Option Addr) (len0 cap0 : Nat) (z0 : List (List UInt8)) (a1 : Option Addr) (len1 cap1 : Nat) (z1 : List Fd) (a2 : Option Addr) (len2 cap2 : Nat) (z2 : List Pk) (a3 : Option Addr) (len3 cap3 : Nat) (z3 : List Pk) (w : World) (w0 : SlS w a0 len0 cap0 z0 ∧ ∀ x ∈ z0, x.length ≤ maxLen) (w1 : SlF w a1 len1 cap1 z1) (w2 : SlK w a2 len2 cap2 z2) (w3 : SlK w a3 len3 cap3 z3) :
    Calls Try.prog 4 #[.slice a0 len0 cap0, .slice a1 len1 cap1, .slice a2 len2 cap2, .slice a3 len3 cap3] w fun e w' => e = .returned (.bool true) ∧ Below w.heap.size w w' := by
  obtain ⟨w0, _⟩ := w0
  have hlen0 := w0.len
  have hlen1 := w1.len
  have hlen2 := w2.len
  have hlen3 := w3.len
  subst hlen0 hlen1 hlen2 hlen3
  have cx := fun W (_ : Below w.heap.size w W) => ex15_any W
  have CX := Lib.hid cx
  clear cx
  have HB : Hid (Below w.heap.size w w) := Below.refl _ _
  have HN := Lib.hid w0
  have HF := Lib.hid w1
  have HP := Lib.hid w2
  have HQ := Lib.hid w3
  have cf := fun W (h : SlF W a1 z1.length cap1 z1) => few70 500 500 rfl a1 z1.length cap1 z1 W h
  have cn := fun W (h : SlS W a0 z0.length cap0 z0) => r_fewN a0 z0.length cap0 z0 W h
  have cp := fun W (h : SlK W a2 z2.length cap2 z2) => r_few a2 z2.length cap2 z2 W h
  have cq := fun W (h : SlK W a3 z3.length cap3 z3) => r_few a3 z3.length cap3 z3 W h
  clear w0 w1 w2 w3
  cases hf : fewB z1 70 500 with
  | false =>
    rw [hf] at cf
    have CF := Lib.hid cf
    clear cf cn cp cq hf
    go_enter Try.func4, Try.ntmps4
    go_wp2_with fail
    refine (CF.out _ HF.out).mono ?_
    rintro e w1 ⟨rfl, rfl⟩
    go_wp2_with fail
    refine (CX.out _ HB.out).mono ?_
    rintro e w9 ⟨rfl, hb9⟩
    go_wp2_with fail
    go_ret
    exact ⟨rfl, below_then HB.out hb9⟩
  | true =>
    rw [hf] at cf
    have CF := Lib.hid cf
    cases hn : fewN z0 with
    | false =>
      rw [hn] at cn
      have CN := Lib.hid cn
      clear cf cn cp cq hf hn
      go_enter Try.func4, Try.ntmps4
      go_wp2_with fail
      refine (CF.out _ HF.out).mono ?_
      rintro e w1 ⟨rfl, rfl⟩
      go_wp2_with fail
      refine (CN.out _ HN.out).mono ?_
      rintro e w2 ⟨rfl, hb⟩
      have HN := Lib.hid (HN.out.below hb)
      have HF := Lib.hid (HF.out.below hb)
      have HP := Lib.hid (HP.out.below hb)
      have HQ := Lib.hid (HQ.out.below hb)
      have HB := Lib.hid (below_then HB.out hb)
      clear hb
      go_wp2_with fail
      refine (CX.out _ HB.out).mono ?_
      rintro e w9 ⟨rfl, hb9⟩
      go_wp2_with fail
      go_ret
      exact ⟨rfl, below_then HB.out hb9⟩
    | true =>
      rw [hn] at cn
      have CN := Lib.hid cn
      cases hp : fewK z2 with
      | false =>
        rw [hp] at cp
        have CP := Lib.hid cp
        clear cf cn cp cq hf hn hp
        go_enter Try.func4, Try.ntmps4
        go_wp2_with fail
        refine (CF.out _ HF.out).mono ?_
        rintro e w1 ⟨rfl, rfl⟩
        go_wp2_with fail
        refine (CN.out _ HN.out).mono ?_
        rintro e w2 ⟨rfl, hb⟩
        have HN := Lib.hid (HN.out.below hb)
        have HF := Lib.hid (HF.out.below hb)
        have HP := Lib.hid (HP.out.below hb)
        have HQ := Lib.hid (HQ.out.below hb)
        have HB := Lib.hid (below_then HB.out hb)
        clear hb
        go_wp2_with fail
        refine (CP.out _ HP.out).mono ?_
        rintro e w2 ⟨rfl, hb⟩
        have HN := Lib.hid (HN.out.below hb)
        have HF := Lib.hid (HF.out.below hb)
        have HP := Lib.hid (HP.out.below hb)
        have HQ := Lib.hid (HQ.out.below hb)
        have HB := Lib.hid (below_then HB.out hb)
        clear hb
        go_wp2_with fail
        refine (CX.out _ HB.out).mono ?_
        rintro e w9 ⟨rfl, hb9⟩
        go_wp2_with fail
        go_ret
        exact ⟨rfl, below_then HB.out hb9⟩
      | true =>
        rw [hp] at cp
        have CP := Lib.hid cp
        cases hq : fewK z3 with
        | false =>
          rw [hq] at cq
          have CQ := Lib.hid cq
          clear cf cn cp cq hf hn hp hq
          go_enter Try.func4, Try.ntmps4
          go_wp2_with fail
          refine (CF.out _ HF.out).mono ?_
          rintro e w1 ⟨rfl, rfl⟩
          go_wp2_with fail
          refine (CN.out _ HN.out).mono ?_
          rintro e w2 ⟨rfl, hb⟩
          have HN := Lib.hid (HN.out.below hb)
          have HF := Lib.hid (HF.out.below hb)
          have HP := Lib.hid (HP.out.below hb)
          have HQ := Lib.hid (HQ.out.below hb)
          have HB := Lib.hid (below_then HB.out hb)
          clear hb
          go_wp2_with fail
          refine (CP.out _ HP.out).mono ?_
          rintro e w2 ⟨rfl, hb⟩
          have HN := Lib.hid (HN.out.below hb)
          have HF := Lib.hid (HF.out.below hb)
          have HP := Lib.hid (HP.out.below hb)
          have HQ := Lib.hid (HQ.out.below hb)
          have HB := Lib.hid (below_then HB.out hb)
          clear hb
          go_wp2_with fail
          refine (CQ.out _ HQ.out).mono ?_
          rintro e w2 ⟨rfl, hb⟩
          have HN := Lib.hid (HN.out.below hb)
          have HF := Lib.hid (HF.out.below hb)
          have HP := Lib.hid (HP.out.below hb)
          have HQ := Lib.hid (HQ.out.below hb)
          have HB := Lib.hid (below_then HB.out hb)
          clear hb
          go_wp2_with fail
          refine (CX.out _ HB.out).mono ?_
          rintro e w9 ⟨rfl, hb9⟩
          go_wp2_with fail
          go_ret
          exact ⟨rfl, below_then HB.out hb9⟩
        | true =>
          rw [hq] at cq
          have CQ := Lib.hid cq
          have gF := fwf_of hf
          have gN := fwn_of hn
          have gP := fwp_of hp
          have K1 := Lib.hid (fun W (h : SlS W a0 z0.length cap0 z0) (h' : SlF W a1 z1.length cap1 z1) (_ : Below w.heap.size w W) => varK_any a0 a1 cap0 cap1 z0 z1 W h h' gN gF)
          have K2 := Lib.hid (fun W (h : SlS W a0 z0.length cap0 z0) (h' : SlF W a1 z1.length cap1 z1) (_ : Below w.heap.size w W) => r_picks a0 a1 z0.length cap0 z1.length cap1 z0 z1 W h h' gN gF)
          have hpl : (pksL z0 z1).length ≤ 1000 := by unfold pksL; rw [List.length_map]; exact gN.1
          have ks := fun W A B c d (h : SlK W A (pksL z0 z1).length c (pksL z0 z1)) (h' : SlK W B (pksL z0 z1).length d (pksL z0 z1)) (_ : Below w.heap.size w W) => r_pkSame A B _ c _ d (pksL z0 z1) (pksL z0 z1) W h h' (by omega)
          simp only [pksB_refl] at ks
          have KS := Lib.hid ks
          have K3 := Lib.hid (fun W (h : SlK W a2 z2.length cap2 z2) (h' : SlF W a1 z1.length cap1 z1) (_ : Below w.heap.size w W) => varM_any a2 a1 cap2 cap1 z2 z1 W h h' gP gF)
          have K4 := Lib.hid (fun W (h : SlK W a2 z2.length cap2 z2) (h' : SlF W a1 z1.length cap1 z1) (_ : Below w.heap.size w W) => r_pkMatch a2 a1 z2.length cap2 z1.length cap1 z2 z1 W h h' gP gF)
          have K5 := Lib.hid (fun W (h : SlK W a2 z2.length cap2 z2) (h' : SlK W a3 z3.length cap3 z3) (_ : Below w.heap.size w W) => varS_any a2 a3 cap2 cap3 z2 z3 W h h' (by have := gP.1; omega))
          have K6 := Lib.hid (fun W (h : SlK W a2 z2.length cap2 z2) (h' : SlK W a3 z3.length cap3 z3) (_ : Below w.heap.size w W) => r_pkSame a2 a3 z2.length cap2 z3.length cap3 z2 z3 W h h' (by have := gP.1; omega))
          unfold IsPk at *
          clear cf cn cp cq hf hn hp hq gF gN gP ks hpl
          generalize pksL z0 z1 = PL at *
          generalize pkM z2 z1 = pm at *
          generalize pksB z2 z3 = pb at *
          have e1 : (pm == pm) = true := by simp
          have e2 : (pb == pb) = true := by simp
          go_enter Try.func4, Try.ntmps4
          go_wp2_with fail
          refine (CF.out _ HF.out).mono ?_
          rintro e w1 ⟨rfl, rfl⟩
          go_wp2_with fail
          refine (CN.out _ HN.out).mono ?_
          rintro e w2 ⟨rfl, hb⟩
          have HN := Lib.hid (HN.out.below hb)
          have HF := Lib.hid (HF.out.below hb)
          have HP := Lib.hid (HP.out.below hb)
          have HQ := Lib.hid (HQ.out.below hb)
          have HB := Lib.hid (below_then HB.out hb)
          clear hb
          go_wp2_with fail
          refine (CP.out _ HP.out).mono ?_
          rintro e w2 ⟨rfl, hb⟩
          have HN := Lib.hid (HN.out.below hb)
          have HF := Lib.hid (HF.out.below hb)
          have HP := Lib.hid (HP.out.below hb)
          have HQ := Lib.hid (HQ.out.below hb)
          have HB := Lib.hid (below_then HB.out hb)
          clear hb
          go_wp2_with fail
          refine (CQ.out _ HQ.out).mono ?_
          rintro e w2 ⟨rfl, hb⟩
          have HN := Lib.hid (HN.out.below hb)
          have HF := Lib.hid (HF.out.below hb)
          have HP := Lib.hid (HP.out.below hb)
          have HQ := Lib.hid (HQ.out.below hb)
          have HB := Lib.hid (below_then HB.out hb)
          clear hb
          go_wp2_with fail
          refine (K1.out _ HN.out HF.out HB.out).mono ?_
          rintro e w3 ⟨A3, c3, rfl, hK, hb⟩
          have HN := Lib.hid (HN.out.below hb)
          have HF := Lib.hid (HF.out.below hb)
          have HP := Lib.hid (HP.out.below hb)
          have HQ := Lib.hid (HQ.out.below hb)
          have HB := Lib.hid (below_then HB.out hb)
          clear hb
          have H1 := Lib.hid hK
          clear hK
          go_wp2_with fail
          refine (K2.out _ HN.out HF.out HB.out).mono ?_
          rintro e w4 ⟨A4, c4, rfl, hK, hb⟩
          have HN := Lib.hid (HN.out.below hb)
          have HF := Lib.hid (HF.out.below hb)
          have HP := Lib.hid (HP.out.below hb)
          have HQ := Lib.hid (HQ.out.below hb)
          have H1 := Lib.hid (H1.out.below hb)
          have HB := Lib.hid (below_then HB.out hb)
          clear hb
          have H2 := Lib.hid hK
          clear hK
          go_wp2_with fail
          refine (KS.out _ _ _ _ _ H1.out H2.out HB.out).mono ?_
          rintro e w5 ⟨rfl, hb⟩
          have HN := Lib.hid (HN.out.below hb)
          have HF := Lib.hid (HF.out.below hb)
          have HP := Lib.hid (HP.out.below hb)
          have HQ := Lib.hid (HQ.out.below hb)
          have HB := Lib.hid (below_then HB.out hb)
          clear hb
          go_wp2_with fail
          refine (K3.out _ HP.out HF.out HB.out).mono ?_
          rintro e w6 ⟨rfl, hb⟩
          have HN := Lib.hid (HN.out.below hb)
          have HF := Lib.hid (HF.out.below hb)
          have HP := Lib.hid (HP.out.below hb)
          have HQ := Lib.hid (HQ.out.below hb)
          have HB := Lib.hid (below_then HB.out hb)
          clear hb
          go_wp2_with fail
          refine (K4.out _ HP.out HF.out HB.out).mono ?_
          rintro e w7 ⟨rfl, hb⟩
          have HN := Lib.hid (HN.out.below hb)
          have HF := Lib.hid (HF.out.below hb)
          have HP := Lib.hid (HP.out.below hb)
          have HQ := Lib.hid (HQ.out.below hb)
          have HB := Lib.hid (below_then HB.out hb)
          clear hb
          go_wp2_with fail
          refine (K5.out _ HP.out HQ.out HB.out).mono ?_
          rintro e w8 ⟨rfl, hb⟩
          have HN := Lib.hid (HN.out.below hb)
          have HF := Lib.hid (HF.out.below hb)
          have HP := Lib.hid (HP.out.below hb)
          have HQ := Lib.hid (HQ.out.below hb)
          have HB := Lib.hid (below_then HB.out hb)
          clear hb
          go_wp2_with fail
          refine (K6.out _ HP.out HQ.out HB.out).mono ?_
          rintro e w10 ⟨rfl, hb⟩
          have HN := Lib.hid (HN.out.below hb)
          have HF := Lib.hid (HF.out.below hb)
          have HP := Lib.hid (HP.out.below hb)
          have HQ := Lib.hid (HQ.out.below hb)
          have HB := Lib.hid (below_then HB.out hb)
          clear hb
          go_wp2_with fail
          refine (CX.out _ HB.out).mono ?_
          rintro e w9 ⟨rfl, hb9⟩
          go_wp2_with fail
          go_ret
          exact ⟨rfl, below_then HB.out hb9⟩

set_option maxRecDepth 100000 in
theorem lifted (os : Os) (started : os.Started) (H : Type) (enc : TypeId × Value → H) :
    ReturnsInHanded {} Try.checked os 4 .any (Rows.varyPicksSpec.pre6 enc Try.prog Try.f4 Rows.varyPicksRow.domain false) (Rows.varyPicksSpec.post enc Try.prog Try.f4 false true false false) := by
  refine returnsInHanded_of_change (C := Try.checked) own started (by kernel_rfl) Try.func4
    (ChangeSpec.witness6 (enc := enc) (C := Try.checked) false ⟨#[], #[.slice none 0 0, .slice none 0 0, .slice none 0 0, .slice none 0 0], []⟩ 8 (by kernel_rfl) (by kernel_rfl) (by kernel_rfl) (by kernel_rfl)) ?_
  intro W base args ds gs before hval0 hW hcnd _
  have hval : ∀ (j : Nat) t v, Try.f4.params[j]? = some t → args[j]? = some v → Value.okWide Try.prog W .any base t v := hval0
  have hW' := hW
  obtain ⟨p, q, hA0, hV, rfl, hfz, hnd⟩ := hW
  have hA : DataW.TrodAll enc Try.prog W 0 (fun _ => true) true Try.f4.params.toList args.toList ds p := hA0
  rw [Try.params4] at hA hval
  obtain ⟨v0, vs0, d0, ds0, p0, q0, hargs, rfl, rfl, h0, r0⟩ := trodAll_cons hA
  obtain ⟨v1, vs1, d1, ds1, p1, q1, rfl, rfl, rfl, h1, r1⟩ := trodAll_cons r0
  obtain ⟨v2, vs2, d2, ds2, p2, q2, rfl, rfl, rfl, h2, r2⟩ := trodAll_cons r1
  obtain ⟨v3, vs3, d3, ds3, p3, q3, rfl, rfl, rfl, h3, r3⟩ := trodAll_cons r2
  obtain ⟨rfl, rfl, rfl⟩ := trodAll_nil r3
  obtain rfl : args = #[v0, v1, v2, v3] := by cases args; simp_all
  obtain ⟨rfl, rfl⟩ := trodVars_none hV
  obtain ⟨a0, len0, cap0, rfl⟩ := okWide_slice Try.underlying25 (hval 0 25 v0 rfl rfl)
  have k0 := h0
  have lt0 : ∀ x ∈ p0, x.block < W.heap.size := by obtain ⟨m, hm⟩ := k0; exact DataW.trod_lt m _ _ _ hm
  obtain ⟨z0, w0⟩ : ∃ L, SlS W a0 len0 cap0 L ∧ ∀ x ∈ L, x.length ≤ maxLen := by
    obtain ⟨fuel, hf⟩ := h0
    rcases open_strings Try.underlying25 Try.underlying9 (by kernel_rfl) hf with ⟨hcs, _⟩ | ⟨x, l, c, ss, hcs, _, hl, hm, hz, _, hcell, hwz⟩
    · simp [Value.cells] at hcs
      obtain ⟨rfl, rfl, rfl⟩ := hcs
      exact SlS.of_row (z := []) (.inl ⟨rfl, rfl, rfl, rfl⟩)
    · simp [Value.cells] at hcs
      obtain ⟨rfl, rfl, rfl⟩ := hcs
      exact SlS.of_row (z := ss) (.inr ⟨_, rfl, hl, hm, by simpa using hz, hcell, hwz⟩)
  obtain ⟨a1, len1, cap1, rfl⟩ := okWide_slice Try.underlying22 (hval 1 22 v1 rfl rfl)
  have k1 := h1
  have lt1 : ∀ x ∈ p1, x.block < W.heap.size := by obtain ⟨m, hm⟩ := k1; exact DataW.trod_lt m _ _ _ hm
  obtain ⟨z1, w1⟩ := SlF.of_trod Try.underlying22 Try.underlying38 (by kernel_rfl) rfl rfl (by kernel_rfl) (by kernel_rfl) Try.underlying9 Try.underlying9 h1
  obtain ⟨a2, len2, cap2, rfl⟩ := okWide_slice Try.underlying30 (hval 2 30 v2 rfl rfl)
  have k2 := h2
  have lt2 : ∀ x ∈ p2, x.block < W.heap.size := by obtain ⟨m, hm⟩ := k2; exact DataW.trod_lt m _ _ _ hm
  obtain ⟨z2, w2⟩ := SlK.of_trod Try.underlying30 Try.underlying44 (by kernel_rfl) rfl rfl rfl (by kernel_rfl) (by kernel_rfl) (by kernel_rfl) Try.underlying9 Try.underlying4 Try.underlying9 h2
  obtain ⟨a3, len3, cap3, rfl⟩ := okWide_slice Try.underlying30 (hval 3 30 v3 rfl rfl)
  have k3 := h3
  have lt3 : ∀ x ∈ p3, x.block < W.heap.size := by obtain ⟨m, hm⟩ := k3; exact DataW.trod_lt m _ _ _ hm
  obtain ⟨z3, w3⟩ := SlK.of_trod Try.underlying30 Try.underlying44 (by kernel_rfl) rfl rfl rfl (by kernel_rfl) (by kernel_rfl) (by kernel_rfl) Try.underlying9 Try.underlying4 Try.underlying9 h3
  clear hA0 hval0
  refine (walk a0 len0 cap0 z0 a1 len1 cap1 z1 a2 len2 cap2 z2 a3 len3 cap3 z3 W w0 w1 w2 w3).mono fun e W' ⟨he, bel⟩ => ?_
  subst he
  exact ⟨_, rfl, _, _, _, [], _, [], hW', trodAll_mk1 (shut_bool Try.underlying4 _), (trodAll_cons_mk (Below.trod laidOut (by kernel_rfl) (of_decide_eq_true (by kernel_rfl)) k0 bel lt0) (trodAll_cons_mk (Below.trod laidOut (by kernel_rfl) (of_decide_eq_true (by kernel_rfl)) k1 bel lt1) (trodAll_cons_mk (Below.trod laidOut (by kernel_rfl) (of_decide_eq_true (by kernel_rfl)) k2 bel lt2) (trodAll_cons_mk (Below.trod laidOut (by kernel_rfl) (of_decide_eq_true (by kernel_rfl)) k3 bel lt3) trodAll_mk0)))), rfl, bel.frame _, fun h => by cases h⟩

theorem over : Rows.varyPicksRow.holds Try.pinned (OpenSpec.ofChange Rows.varyPicksSpec) :=
  OpenClaim.holds_of_wide 4 Try.f4 rfl rfl rfl rfl rfl rfl rfl ⟨rfl, rfl, rfl, rfl, rfl⟩ rfl rfl rfl rfl rfl (by kernel_rfl) Try.func4 (by kernel_rfl)
    (of_decide_eq_true (by kernel_rfl)) (by unfold Func.isWrapper; first | (rw [if_pos (by decide +kernel)]; kernel_rfl) | (rw [if_neg (by decide +kernel)]; exact ⟨rfl, rfl⟩))
    (fun os started H enc _ => lifted os started H enc)

theorem proved : Rows.VaryPicksSaid := over
#print axioms proved
end Go.Proofs.Ytmpgenflohdghaa.varyPicks
