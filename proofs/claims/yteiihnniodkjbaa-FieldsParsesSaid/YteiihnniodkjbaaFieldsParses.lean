/-
  The law FieldsParses (depotlaw09) returns true for every line and every list of fields, and leaves what it was given as it was. No condition.
-/
import Derived.Test.YteiihnniodkjbaaRows
import Derived.WalkKit
import Derived.ProofKit
import Derived.OpenShut
import Derived.ShutString
import Derived.ChangeOld
import Derived.Below
import Derived.Test.YteiihnniodkjbaaFldX
import Derived.Deep.RegionHeld3
namespace Go.Proofs.Yteiihnniodkjbaa.fieldsParses
open Go.ChangeShapes Go.WideShapes Go.ChangeAt Go.RowKit
open Go.ChangeMaps (open_string shut_string)
set_option linter.unusedVariables false

theorem own : ownKnob Try.prog.godebug = none := by kernel_rfl
theorem laidOut : laidOutB Try.prog = true := by kernel_rfl

set_option maxHeartbeats 8000000 in
set_option maxRecDepth 100000 in
theorem walk (a0 : ByteArray) (a1 : Option Addr) (len1 cap1 : Nat) (z1 : List Fd) (w : World) (w0 : a0.size ≤ maxLen) (w1 : SlF w a1 len1 cap1 z1) :
    Calls Try.prog 3 #[.string a0, .slice a1 len1 cap1] w fun e w' => e = .returned (.bool true) ∧ Below w.heap.size w w' := by
  have hlen := w1.len
  by_cases h0 : (10000 : Int) < (a0.size : Int)
  · go_enter Try.func3, Try.ntmps3
    go_wp2_with fail
    refine (ex9_any _).mono ?_
    rintro e w2 ⟨rfl, hb2⟩
    go_wp2_with fail
    go_ret
    exact ⟨rfl, hb2⟩
  · have cf := few_70 9000 9000 rfl a1 len1 cap1 z1 w w1
    cases hfw : fewB z1 70 9000 with
    | false =>
      rw [hfw] at cf
      have CF := Lib.hid cf
      clear cf hfw
      go_enter Try.func3, Try.ntmps3
      go_wp2_with fail
      refine CF.out.mono ?_
      rintro e w1 ⟨rfl, rfl⟩
      go_wp2_with fail
      refine (ex9_any _).mono ?_
      rintro e w2 ⟨rfl, hb2⟩
      go_wp2_with fail
      go_ret
      exact ⟨rfl, hb2⟩
    | true =>
      rw [hfw] at cf
      have hB := few_bd hfw (by decide)
      obtain ⟨hl, hs⟩ := few_yes hfw
      have c1 := fun W => parse_any a0 W w0
      have c2 := fun W => rf_parse a0 W w0
      have c3 := fun W (hb : Below w.heap.size w W) => chkF_any a1 len1 cap1 z1 W (w1.below hb) (by omega) hB
      have c4 := fun W (hb : Below w.heap.size w W) => rf_check a1 len1 cap1 z1 W (w1.below hb) (by omega) hB
      generalize flX a0 = E at *
      generalize flF a0 = F at *
      generalize chkN z1 = C at *
      obtain ⟨fa, fb⟩ := F
      unfold fdV at c1 c2
      have C1 := Lib.hid c1
      have C2 := Lib.hid c2
      have C3 := Lib.hid c3
      have C4 := Lib.hid c4
      have CF := Lib.hid cf
      have HL := Lib.hid hlen
      subst hlen
      clear c1 c2 c3 c4 cf hfw hB
      go_enter Try.func3, Try.ntmps3
      go_wp2_with fail
      refine CF.out.mono ?_
      rintro e v1 ⟨rfl, rfl⟩
      go_wp2_with fail
      refine (C1.out _).mono ?_
      rintro e v1 ⟨rfl, hb1⟩
      have HB1 := Lib.hid (hb1.alloc hb1.size (.cells #[.string fa, .string fb] 26))
      have HF1 := Lib.hid (heap_alloc_new v1 (.cells #[.string fa, .string fb] 26))
      clear hb1
      go_wp2_with fail
      refine (C2.out _).mono ?_
      rintro e v2 ⟨rfl, hb2⟩
      have hbb := below_then HB1.out hb2
      have HB2 := Lib.hid (hbb.alloc hbb.size (.cells #[.string fa, .string fb] 26))
      have HF2 := Lib.hid (zero_more (o' := .cells #[.string fa, .string fb] 26) (zero_still hb2 HF1.out))
      have HG2 := Lib.hid (heap_alloc_new v2 (.cells #[.string fa, .string fb] 26))
      clear hb2 hbb HB1 HF1
      go_wp2_with fail
      go_loopw [9] (fun i wr => ∃ k : Nat, k ≤ z1.length ∧ i = .int .i64 k ∧ Hid (wr.heap[v1.heap.size]? = some (.cells #[.string fa, .string fb] 26 (0, 0))) ∧ Hid (wr.heap[v2.heap.size]? = some (.cells #[.string fa, .string fb] 26 (0, 0))) ∧ Below w.heap.size w wr) (fun i _ => z1.length - (intOf i).toNat)
      case atStart => exact ⟨0, Nat.zero_le _, rfl, HF2, HG2, HB2.out⟩
      case round =>
        obtain ⟨k, hk, rfl, hF, hG, hbel⟩ := hrel
        by_cases hlt : k < z1.length
        · obtain ⟨ad, rfl, hc⟩ := w1.at_ (by omega)
          obtain ⟨hc0, hc1⟩ := hc k z1[k] (List.getElem?_eq_getElem hlt)
          have hz := hs _ (List.getElem_mem hlt)
          generalize z1[k] = x at *
          have cl := fun W => line_any x (by omega) W
          have cr := fun W => rf_line x (by omega) W
          generalize lineS x = S at *
          obtain ⟨xa, xb⟩ := x
          unfold fdV at cl cr
          have CL := Lib.hid cl
          have CR := Lib.hid cr
          have HC0 : Hid (wr.drew.cell? (ad.add (k * 2)) = some (.string xa)) := cell_kept hbel.drew hc0
          have HC1 : Hid (wr.drew.cell? { block := (ad.add (k * 2)).block, off := (ad.add (k * 2)).off + 1 } = some (.string xb)) := fd_snd (cell_kept hbel.drew hc1)
          have hF : Hid (wr.drew.heap[v1.heap.size]? = some (.cells #[.string fa, .string fb] 26 (0, 0))) := hF.out
          have hG : Hid (wr.drew.heap[v2.heap.size]? = some (.cells #[.string fa, .string fb] 26 (0, 0))) := hG.out
          have hi0 : (0 : Int) ≤ (k : Int) := by omega
          have hi1 : (k : Int) < (z1.length : Int) := by omega
          have hSS : (S.toList == S.toList) = true := by simp
          have hSN : (S.toList != S.toList) = false := by simp
          have hbel := hbel.drew
          clear hc hc0 hc1 cl cr hz
          go_wp2_with fail
          go_region_held3 (fun W => W.cell? (ad.add (k * 2)) = some (.string xa) ∧ W.cell? { block := (ad.add (k * 2)).block, off := (ad.add (k * 2)).off + 1 } = some (.string xb)) (exact ⟨HC0.out, HC1.out⟩) (first
            | (go_at_call 12; refine (CL.out _).mono ?_; rintro e u1 ⟨rfl, hb1⟩; have HC0 := Lib.hid (cell_kept hb1 HC0.out); have HC1 := Lib.hid (cell_kept hb1 HC1.out); have hF := Lib.hid (zero_still hb1 hF.out); have hG := Lib.hid (zero_still hb1 hG.out); have hbel := below_then hbel hb1; clear hb1)
            | (go_at_call 13; refine (CR.out _).mono ?_; rintro e u1 ⟨rfl, hb1⟩; have HC0 := Lib.hid (cell_kept hb1 HC0.out); have HC1 := Lib.hid (cell_kept hb1 HC1.out); have hF := Lib.hid (zero_still hb1 hF.out); have hG := Lib.hid (zero_still hb1 hG.out); have hbel := below_then hbel hb1; clear hb1))
          go_wp2_with fail
          go_roundw
          case rel => exact ⟨k + 1, by omega, by go_num, hF, hG, hbel⟩
          case measure => simp [intOf]; omega
        · obtain ⟨f0, f1⟩ := zero_two hF.out
          obtain ⟨g0, g1⟩ := zero_two hG.out
          have hi1 : ¬ (k : Int) < (z1.length : Int) := by omega
          have HB3 := Lib.hid hbel
          clear hF hG hbel
          go_wp2_with fail
          refine (C3.out _ HB3.out).mono ?_
          rintro e v3 ⟨rfl, hb3⟩
          have HB4 := Lib.hid (below_then HB3.out hb3)
          clear hb3 f0 f1 g0 g1
          go_wp2_with fail
          refine (C4.out _ HB4.out).mono ?_
          rintro e v4 ⟨rfl, hb4⟩
          have HB5 := Lib.hid (below_then HB4.out hb4)
          clear hb4
          go_wp2_with fail
          refine (ex9_any _).mono ?_
          rintro e v5 ⟨rfl, hb5⟩
          go_wp2_with fail
          go_ret
          exact ⟨rfl, below_then HB5.out hb5⟩

set_option maxRecDepth 100000 in
theorem lifted (os : Os) (started : os.Started) (H : Type) (enc : TypeId × Value → H) :
    ReturnsInHanded {} Try.checked os 3 .any (Rows.fieldsParsesSpec.pre6 enc Try.prog Try.f3 Rows.fieldsParsesRow.domain false) (Rows.fieldsParsesSpec.post enc Try.prog Try.f3 false true false false) := by
  refine returnsInHanded_of_change (C := Try.checked) own started (by kernel_rfl) Try.func3
    (ChangeSpec.witness6 (enc := enc) (C := Try.checked) false ⟨#[], #[.string ByteArray.empty, .slice none 0 0], []⟩ 8 (by kernel_rfl) (by kernel_rfl) (by kernel_rfl) (by kernel_rfl)) ?_
  intro W base args ds gs before hval0 hW hcnd _
  have hval : ∀ (j : Nat) t v, Try.f3.params[j]? = some t → args[j]? = some v → Value.okWide Try.prog W .any base t v := hval0
  have hW' := hW
  obtain ⟨p, q, hA0, hV, rfl, hfz, hnd⟩ := hW
  have hA : DataW.TrodAll enc Try.prog W 0 (fun _ => true) true Try.f3.params.toList args.toList ds p := hA0
  rw [Try.params3] at hA hval
  obtain ⟨v0, vs0, d0, ds0, p0, q0, hargs, rfl, rfl, h0, r0⟩ := trodAll_cons hA
  obtain ⟨v1, vs1, d1, ds1, p1, q1, rfl, rfl, rfl, h1, r1⟩ := trodAll_cons r0
  obtain ⟨rfl, rfl, rfl⟩ := trodAll_nil r1
  obtain rfl : args = #[v0, v1] := by cases args; simp_all
  obtain ⟨rfl, rfl⟩ := trodVars_none hV
  obtain ⟨a0, rfl, rfl, rfl, w0⟩ := open_string Try.underlying9 (hval 0 9 v0 rfl rfl) h0
  obtain ⟨a1, len1, cap1, rfl⟩ := okWide_slice Try.underlying22 (hval 1 22 v1 rfl rfl)
  have k1 := h1
  have lt1 : ∀ x ∈ p1, x.block < W.heap.size := by obtain ⟨m, hm⟩ := k1; exact DataW.trod_lt m _ _ _ hm
  obtain ⟨z1, w1⟩ := SlF.of_trod Try.underlying22 Try.underlying26 (by kernel_rfl) rfl rfl (by kernel_rfl) (by kernel_rfl) Try.underlying9 Try.underlying9 h1
  clear hA0 hval0
  refine (walk a0 a1 len1 cap1 z1 W w0 w1).mono fun e W' ⟨he, bel⟩ => ?_
  subst he
  exact ⟨_, rfl, _, _, _, [], _, [], hW', trodAll_mk1 (shut_bool Try.underlying4 _), (trodAll_cons_mk (shut_string Try.underlying9 w0) (trodAll_cons_mk (Below.trod laidOut (by kernel_rfl) (of_decide_eq_true (by kernel_rfl)) k1 bel lt1) trodAll_mk0)), rfl, bel.frame _, fun h => by cases h⟩

theorem over : Rows.fieldsParsesRow.holds Try.pinned (OpenSpec.ofChange Rows.fieldsParsesSpec) :=
  OpenClaim.holds_of_wide 3 Try.f3 rfl rfl rfl rfl rfl rfl rfl ⟨rfl, rfl, rfl, rfl, rfl⟩ rfl rfl rfl rfl rfl (by kernel_rfl) Try.func3 (by kernel_rfl)
    (of_decide_eq_true (by kernel_rfl)) (by unfold Func.isWrapper; first | (rw [if_pos (by decide +kernel)]; kernel_rfl) | (rw [if_neg (by decide +kernel)]; exact ⟨rfl, rfl⟩))
    (fun os started H enc _ => lifted os started H enc)

theorem proved : Rows.FieldsParsesSaid := over
#print axioms proved
end Go.Proofs.Yteiihnniodkjbaa.fieldsParses
