/-
  The law FieldsAsks (depotlaw09) returns true for every list of fields, every name and every item, and leaves what it was given as it was. No condition.
-/
import Derived.Test.YteiihnniodkjbaaRows
import Derived.WalkKit
import Derived.ProofKit
import Derived.OpenShut
import Derived.ShutString
import Derived.ChangeOld
import Derived.Below
import Derived.Test.YteiihnniodkjbaaFldX
namespace Go.Proofs.Yteiihnniodkjbaa.fieldsAsks
open Go.ChangeShapes Go.WideShapes Go.ChangeAt Go.RowKit
open Go.ChangeMaps (open_string shut_string)
set_option linter.unusedVariables false

theorem own : ownKnob Try.prog.godebug = none := by kernel_rfl
theorem laidOut : laidOutB Try.prog = true := by kernel_rfl

set_option maxHeartbeats 8000000 in
set_option maxRecDepth 100000 in
theorem walk (a0 : Option Addr) (len0 cap0 : Nat) (z0 : List Fd) (a1 : ByteArray) (a2 : ByteArray) (w : World) (w0 : SlF w a0 len0 cap0 z0) (w1 : a1.size ≤ maxLen) (w2 : a2.size ≤ maxLen) :
    Calls Try.prog 4 #[.slice a0 len0 cap0, .string a1, .string a2] w fun e w' => e = .returned (.bool true) ∧ Below w.heap.size w w' := by
  have hlen := w0.len
  have cf := few_70 500 500 rfl a0 len0 cap0 z0 w w0
  cases hfw : fewB z0 70 500 with
  | false =>
    rw [hfw] at cf
    have CF := Lib.hid cf
    clear cf hfw
    go_enter Try.func4, Try.ntmps4
    go_wp2_with fail
    refine CF.out.mono ?_
    rintro e w1 ⟨rfl, rfl⟩
    go_wp2_with fail
    refine (ex9_any _).mono ?_
    rintro e w2 ⟨rfl, hb2⟩
    go_wp2_with fail
    go_ret
    exact ⟨rfl, hb2⟩
  | true =>
    rw [hfw] at cf
    have CF := Lib.hid cf
    clear cf
    by_cases h1 : (500 : Int) < (a1.size : Int)
    · clear hfw
      go_enter Try.func4, Try.ntmps4
      go_wp2_with fail
      refine CF.out.mono ?_
      rintro e w1 ⟨rfl, rfl⟩
      go_wp2_with fail
      refine (ex9_any _).mono ?_
      rintro e w2 ⟨rfl, hb2⟩
      go_wp2_with fail
      go_ret
      exact ⟨rfl, hb2⟩
    · by_cases h2 : (500 : Int) < (a2.size : Int)
      · clear hfw
        go_enter Try.func4, Try.ntmps4
        go_wp2_with fail
        refine CF.out.mono ?_
        rintro e w1 ⟨rfl, rfl⟩
        go_wp2_with fail
        refine (ex9_any _).mono ?_
        rintro e w2 ⟨rfl, hb2⟩
        go_wp2_with fail
        go_ret
        exact ⟨rfl, hb2⟩
      · have hB := few_bd hfw (by decide)
        obtain ⟨hl, hs⟩ := few_yes hfw
        have hn : len0 ≤ 10000 := by omega
        have hj : (Lib.join (fdAll z0 a1) [44, 32]).length ≤ 1000000000000 := by
          refine Nat.le_trans (join_le _ 70 500 ?_ ?_) (by decide)
          · unfold fdAll
            rw [List.length_map]
            exact Nat.le_trans (List.length_filter_le _ _) hl
          · intro x hx
            unfold fdAll at hx
            obtain ⟨y, hy, rfl⟩ := List.mem_map.1 hx
            rw [← Lib.size_eq]
            exact (hs y (List.mem_filter.1 hy).1).2
        have hx : (fdAll z0 a1).length ≤ 1000000000 := by
          unfold fdAll
          rw [List.length_map]
          exact Nat.le_trans (List.length_filter_le _ _) (by omega)
        have hs2 : ∀ x ∈ z0, x.2.size ≤ 10000 := fun x hx => by have := (hs x hx).2; omega
        have c1 := fun W (hb : Below w.heap.size w W) => getF_any a0 len0 cap0 z0 a1 W (w0.below hb) (by omega) hB w1 hj
        have c2 := fun W (hb : Below w.heap.size w W) => rf_get a0 len0 cap0 z0 a1 W (w0.below hb) hn w1 hs2
        have c3 := fun W (hb : Below w.heap.size w W) => all_any a0 len0 cap0 z0 a1 W (w0.below hb) (by omega) hB w1
        have c4 := fun W (hb : Below w.heap.size w W) => rf_all a0 len0 cap0 z0 a1 W (w0.below hb) (by omega) w1
        have c5 := fun W (hb : Below w.heap.size w W) => hasF_any a0 len0 cap0 z0 a1 a2 W (w0.below hb) (by omega) hB w1 w2
        have c6 := fun W (hb : Below w.heap.size w W) => rf_has a0 len0 cap0 z0 a1 a2 W (w0.below hb) hn w1 w2 hs2
        unfold Vals at c3 c4
        generalize fdGet z0 a1 = G at *
        generalize fdGot z0 a1 = O at *
        generalize fdHas z0 a1 a2 = H at *
        generalize fdAll z0 a1 = V at *
        have c7 := fun A B n c W (h : SlS W A V.length n V) (g : SlS W B V.length c V) => r_sames A B V.length n V.length c V V W h g hx
        have hvv : (V == V) = true := by simp
        rw [hvv] at c7
        have C1 := Lib.hid c1
        have C2 := Lib.hid c2
        have C3 := Lib.hid c3
        have C4 := Lib.hid c4
        have C5 := Lib.hid c5
        have C6 := Lib.hid c6
        have C7 := Lib.hid c7
        clear c1 c2 c3 c4 c5 c6 c7 hvv hj hs hs2 hB hfw w0 hlen hl hn hx
        go_enter Try.func4, Try.ntmps4
        go_wp2_with fail
        refine CF.out.mono ?_
        rintro e v1 ⟨rfl, rfl⟩
        go_wp2_with fail
        refine (C1.out _ (Below.refl _ _)).mono ?_
        rintro e v1 ⟨rfl, hb1⟩
        have HB1 := Lib.hid hb1
        clear hb1
        go_wp2_with fail
        refine (C2.out _ HB1.out).mono ?_
        rintro e v2 ⟨rfl, hb2⟩
        have HB2 := Lib.hid (below_then HB1.out hb2)
        clear hb2
        go_wp2_with fail
        refine (C3.out _ HB2.out).mono ?_
        rintro e v3 ⟨A3, d3, rfl, hA3, _, hb3⟩
        have HB3 := Lib.hid (below_then HB2.out hb3)
        have HA3 := Lib.hid hA3
        clear hb3 hA3
        go_wp2_with fail
        refine (C4.out _ HB3.out).mono ?_
        rintro e v4 ⟨A4, d4, rfl, hA4, _, hb4⟩
        have HB4 := Lib.hid (below_then HB3.out hb4)
        have HA3 := Lib.hid (HA3.out.below hb4)
        have HA4 := Lib.hid hA4
        clear hb4 hA4
        go_wp2_with fail
        refine (C7.out _ _ _ _ _ HA3.out HA4.out).mono ?_
        rintro e v5 ⟨rfl, hb5⟩
        have HB5 := Lib.hid (below_then HB4.out hb5)
        clear hb5
        have both : ∀ t : Bool, t = true ∨ t = false := fun t => by cases t <;> simp
        cases O
        all_goals
          cases H
          all_goals
            go_wp2_with fail
            refine (C5.out _ HB5.out).mono ?_
            rintro e v6 ⟨rfl, hb6⟩
            have HB6 := Lib.hid (below_then HB5.out hb6)
            clear hb6
            go_wp2_with fail
            refine (C6.out _ HB6.out).mono ?_
            rintro e v7 ⟨rfl, hb7⟩
            have HB7 := Lib.hid (below_then HB6.out hb7)
            clear hb7
            go_wp2_with fail
            refine (ex9_any _).mono ?_
            rintro e v8 ⟨rfl, hb8⟩
            go_wp2_with fail
            go_ret
            exact ⟨rfl, below_then HB7.out hb8⟩

set_option maxRecDepth 100000 in
theorem lifted (os : Os) (started : os.Started) (H : Type) (enc : TypeId × Value → H) :
    ReturnsInHanded {} Try.checked os 4 .any (Rows.fieldsAsksSpec.pre6 enc Try.prog Try.f4 Rows.fieldsAsksRow.domain false) (Rows.fieldsAsksSpec.post enc Try.prog Try.f4 false true false false) := by
  refine returnsInHanded_of_change (C := Try.checked) own started (by kernel_rfl) Try.func4
    (ChangeSpec.witness6 (enc := enc) (C := Try.checked) false ⟨#[], #[.slice none 0 0, .string ByteArray.empty, .string ByteArray.empty], []⟩ 8 (by kernel_rfl) (by kernel_rfl) (by kernel_rfl) (by kernel_rfl)) ?_
  intro W base args ds gs before hval0 hW hcnd _
  have hval : ∀ (j : Nat) t v, Try.f4.params[j]? = some t → args[j]? = some v → Value.okWide Try.prog W .any base t v := hval0
  have hW' := hW
  obtain ⟨p, q, hA0, hV, rfl, hfz, hnd⟩ := hW
  have hA : DataW.TrodAll enc Try.prog W 0 (fun _ => true) true Try.f4.params.toList args.toList ds p := hA0
  rw [Try.params4] at hA hval
  obtain ⟨v0, vs0, d0, ds0, p0, q0, hargs, rfl, rfl, h0, r0⟩ := trodAll_cons hA
  obtain ⟨v1, vs1, d1, ds1, p1, q1, rfl, rfl, rfl, h1, r1⟩ := trodAll_cons r0
  obtain ⟨v2, vs2, d2, ds2, p2, q2, rfl, rfl, rfl, h2, r2⟩ := trodAll_cons r1
  obtain ⟨rfl, rfl, rfl⟩ := trodAll_nil r2
  obtain rfl : args = #[v0, v1, v2] := by cases args; simp_all
  obtain ⟨rfl, rfl⟩ := trodVars_none hV
  obtain ⟨a0, len0, cap0, rfl⟩ := okWide_slice Try.underlying22 (hval 0 22 v0 rfl rfl)
  have k0 := h0
  have lt0 : ∀ x ∈ p0, x.block < W.heap.size := by obtain ⟨m, hm⟩ := k0; exact DataW.trod_lt m _ _ _ hm
  obtain ⟨z0, w0⟩ := SlF.of_trod Try.underlying22 Try.underlying26 (by kernel_rfl) rfl rfl (by kernel_rfl) (by kernel_rfl) Try.underlying9 Try.underlying9 h0
  obtain ⟨a1, rfl, rfl, rfl, w1⟩ := open_string Try.underlying9 (hval 1 9 v1 rfl rfl) h1
  obtain ⟨a2, rfl, rfl, rfl, w2⟩ := open_string Try.underlying9 (hval 2 9 v2 rfl rfl) h2
  clear hA0 hval0
  refine (walk a0 len0 cap0 z0 a1 a2 W w0 w1 w2).mono fun e W' ⟨he, bel⟩ => ?_
  subst he
  exact ⟨_, rfl, _, _, _, [], _, [], hW', trodAll_mk1 (shut_bool Try.underlying4 _), (trodAll_cons_mk (Below.trod laidOut (by kernel_rfl) (of_decide_eq_true (by kernel_rfl)) k0 bel lt0) (trodAll_cons_mk (shut_string Try.underlying9 w1) (trodAll_cons_mk (shut_string Try.underlying9 w2) trodAll_mk0))), rfl, bel.frame _, fun h => by cases h⟩

theorem over : Rows.fieldsAsksRow.holds Try.pinned (OpenSpec.ofChange Rows.fieldsAsksSpec) :=
  OpenClaim.holds_of_wide 4 Try.f4 rfl rfl rfl rfl rfl rfl rfl ⟨rfl, rfl, rfl, rfl, rfl⟩ rfl rfl rfl rfl rfl (by kernel_rfl) Try.func4 (by kernel_rfl)
    (of_decide_eq_true (by kernel_rfl)) (by unfold Func.isWrapper; first | (rw [if_pos (by decide +kernel)]; kernel_rfl) | (rw [if_neg (by decide +kernel)]; exact ⟨rfl, rfl⟩))
    (fun os started H enc _ => lifted os started H enc)

theorem proved : Rows.FieldsAsksSaid := over
#print axioms proved
end Go.Proofs.Yteiihnniodkjbaa.fieldsAsks
