/-
  The law FieldsBack (depotlaw09) returns true for every list of fields and every line, and leaves what it was given as it was. No condition.
-/
import Derived.Test.YteiihnniodkjbaaRows
import Derived.WalkKit
import Derived.ProofKit
import Derived.OpenShut
import Derived.ShutString
import Derived.ChangeOld
import Derived.Below
import Derived.Test.YteiihnniodkjbaaFldY
import Derived.Deep.RegionHeld3
namespace Go.Proofs.Yteiihnniodkjbaa.fieldsBack
open Go.ChangeShapes Go.WideShapes Go.ChangeAt Go.RowKit
open Go.ChangeMaps (open_string shut_string)
set_option linter.unusedVariables false

theorem own : ownKnob Try.prog.godebug = none := by kernel_rfl
theorem laidOut : laidOutB Try.prog = true := by kernel_rfl

set_option maxHeartbeats 8000000 in
set_option maxRecDepth 100000 in
theorem walk (a0 : Option Addr) (len0 cap0 : Nat) (z0 : List Fd) (a1 : ByteArray) (w : World) (w0 : SlF w a0 len0 cap0 z0) (w1 : a1.size ≤ maxLen) :
    Calls Try.prog 6 #[.slice a0 len0 cap0, .string a1] w fun e w' => e = .returned (.bool true) ∧ Below w.heap.size w w' := by
  have hlen := w0.len
  have cf := few_70 500 500 rfl a0 len0 cap0 z0 w w0
  cases hfw : fewB z0 70 500 with
  | false =>
    rw [hfw] at cf
    have CF := Lib.hid cf
    clear cf hfw
    go_enter Try.func6, Try.ntmps6
    go_wp2_with fail
    refine CF.out.mono ?_
    rintro e w1 ⟨rfl, rfl⟩
    go_wp2_with fail
    refine (ex9_any _).mono ?_
    rintro e w2 ⟨rfl, hb2⟩
    go_wp2_with fail
    go_ret
    exact ⟨rfl, hb2⟩
  | true =>
    rw [hfw] at cf
    have CF := Lib.hid cf
    clear cf
    by_cases h1 : (5000 : Int) < (a1.size : Int)
    · clear hfw
      go_enter Try.func6, Try.ntmps6
      go_wp2_with fail
      refine CF.out.mono ?_
      rintro e w1 ⟨rfl, rfl⟩
      go_wp2_with fail
      refine (ex9_any _).mono ?_
      rintro e w2 ⟨rfl, hb2⟩
      go_wp2_with fail
      go_ret
      exact ⟨rfl, hb2⟩
    · have hB := few_bd hfw (by decide)
      obtain ⟨hl, hs⟩ := few_yes hfw
      have c1 := fun W => parse_any a1 W w1
      have c3 := fun W (hb : Below w.heap.size w W) => chkF_any a0 len0 cap0 z0 W (w0.below hb) (by omega) hB
      have hpc := fun h => parsed_chk (s := a1) h (by omega)
      have hlb := fun h => lines_back (L := z0) h
      have hfs : (flF a1).1.size ≤ 5000 ∧ (flF a1).2.size ≤ 5000 := by
        have ht := flT_le a1
        unfold flF
        split
        · exact ⟨Nat.zero_le _, Nat.zero_le _⟩
        · split
          · exact ⟨by omega, by omega⟩
          · exact ⟨Nat.zero_le _, Nat.zero_le _⟩
      generalize flX a1 = E at *
      generalize flF a1 = F at *
      have c2 := fun (A : Option Addr) W (h : SlF W A 1 1 [F]) => chkF_any A 1 1 [F] W h (by decide) (fun x hx => by
        simp only [List.mem_singleton] at hx
        subst hx
        exact ⟨by omega, by omega⟩)
      have hfm : F.1.size ≤ maxLen ∧ F.2.size ≤ maxLen := by
        have : (5000 : Nat) ≤ maxLen := by decide
        exact ⟨by omega, by omega⟩
      have HPC := Lib.hid hpc
      have HLB := Lib.hid hlb
      obtain ⟨C, hC⟩ : ∃ C, C = chkN z0 := ⟨_, rfl⟩
      rw [← hC] at c3
      have HC := Lib.hid hC
      obtain ⟨D, hD⟩ : ∃ D, D = chkN [F] := ⟨_, rfl⟩
      rw [← hD] at c2
      have HD := Lib.hid hD
      obtain ⟨fa, fb⟩ := F
      unfold fdV at c1
      have C1 := Lib.hid c1
      have C2 := Lib.hid c2
      have C3 := Lib.hid c3
      have HS := Lib.hid hs
      subst hlen
      have hend : ∀ (W : World), Below w.heap.size w W → ∀ (q : Int), q = C → Calls Try.prog 14 #[.slice a0 z0.length cap0] W fun e w' => e = .returned (.int .i64 q) ∧ Below W.heap.size W w' := fun W hb q hq => by rw [hq]; exact C3.out W hb
      have CE := Lib.hid hend
      clear c1 c2 c3 hpc hlb hC hD hB hs hfs hfw hend
      by_cases hE : E = 0
      · have hD0 : D = 0 := by rw [HD.out]; exact HPC.out hE
        subst hD0 hE
        go_enter Try.func6, Try.ntmps6
        go_wp2_with fail
        refine CF.out.mono ?_
        rintro e v1 ⟨rfl, rfl⟩
        go_wp2_with fail
        refine (C1.out _).mono ?_
        rintro e v1 ⟨rfl, hb1⟩
        have hb1a := hb1.alloc hb1.size (.cells #[.string fa, .string fb] 26)
        have hb1b := hb1a.alloc hb1a.size (.cells #[.string fa, .string fb] 26)
        have HB1 := Lib.hid hb1b
        have hsl : SlF ((v1.alloc (.cells #[.string fa, .string fb] 26)).alloc (.cells #[.string fa, .string fb] 26)) (some ⟨v1.heap.size + 1, 0, none⟩) 1 1 [(fa, fb)] := by
          have := SlF.one (v1.alloc (.cells #[.string fa, .string fb] 26)) 26 (fa, fb) hfm
          rwa [show (v1.alloc (.cells #[.string fa, .string fb] 26)).heap.size = v1.heap.size + 1 by simp] at this
        have HSL := Lib.hid hsl
        clear hb1 hb1a hb1b hsl
        go_wp2_with fail
        refine (C2.out _ _ HSL.out).mono ?_
        rintro e v2 ⟨rfl, hb2⟩
        have HB2 := Lib.hid (below_then HB1.out hb2)
        clear hb2 HSL HB1
        by_cases hC0 : C = 0
        · have hLB := HLB.out (by rw [← HC.out]; exact hC0)
          have HLX := Lib.hid hLB
          subst hC0
          clear hLB
          go_wp2_with fail
          refine (CE.out _ HB2.out 0 rfl).mono ?_
          rintro e v3 ⟨rfl, hb3⟩
          have HB3 := Lib.hid (below_then HB2.out hb3)
          clear hb3
          go_wp2_with fail
          go_loopw [7] (fun i wr => ∃ k : Nat, k ≤ z0.length ∧ i = .int .i64 k ∧ Below w.heap.size w wr) (fun i _ => z0.length - (intOf i).toNat)
          case atStart => exact ⟨0, Nat.zero_le _, rfl, HB3.out⟩
          case round =>
            obtain ⟨k, hk, rfl, hbel⟩ := hrel
            by_cases hlt : k < z0.length
            · obtain ⟨ad, rfl, hc⟩ := w0.at_ (by omega)
              obtain ⟨hc0, hc1⟩ := hc k z0[k] (List.getElem?_eq_getElem hlt)
              have hz := HS.out _ (List.getElem_mem hlt)
              have hbk := HLX.out _ (List.getElem_mem hlt)
              generalize z0[k] = x at *
              have cl := fun W => line_any x (by omega) W
              have hls := line_size x
              have cp := fun W => parse_any (lineS x) W (by rw [hls]; have : (1002 : Nat) ≤ maxLen := by decide
                                                            omega)
              rw [hbk.1, hbk.2] at cp
              generalize lineS x = S at *
              obtain ⟨xa, xb⟩ := x
              unfold fdV at cl cp
              have CL := Lib.hid cl
              have CP := Lib.hid cp
              have HC0 := Lib.hid (cell_kept hbel hc0)
              have HC1 := Lib.hid (fd_snd (cell_kept hbel hc1))
              have hcell0 := HC0.out
              have hcell1 := HC1.out
              have hi0 : (0 : Int) ≤ (k : Int) := by omega
              have hi1 : (k : Int) < (z0.length : Int) := by omega
              have HBR := Lib.hid hbel
              clear hc hc0 hc1 cl cp hz hbk hls hbel
              go_wp2_with fail
              refine (CL.out _).mono ?_
              rintro e u1 ⟨rfl, hb1⟩
              have HC0 := Lib.hid (cell_kept hb1 HC0.out)
              have HC1 := Lib.hid (cell_kept hb1 HC1.out)
              have HBR := Lib.hid (below_then HBR.out hb1)
              clear hb1 hcell0 hcell1
              go_wp2_with fail
              refine (CP.out _).mono ?_
              rintro e u2 ⟨rfl, hb2⟩
              have hbu := below_then HBR.out hb2
              have hbx : Below u2.heap.size u2 (u2.alloc (.cells #[.string xa, .string xb] 26)) := (Below.refl _ _).alloc (Nat.le_refl _) _
              have HC0 : Hid ((u2.alloc (.cells #[.string xa, .string xb] 26)).drew.cell? (ad.add (k * 2)) = some (.string xa)) := cell_kept hbx (cell_kept hb2 HC0.out)
              have HC1 : Hid ((u2.alloc (.cells #[.string xa, .string xb] 26)).drew.cell? { block := (ad.add (k * 2)).block, off := (ad.add (k * 2)).off + 1 } = some (.string xb)) := cell_kept hbx (cell_kept hb2 HC1.out)
              have hbox := zero_two (heap_alloc_new u2 (.cells #[.string xa, .string xb] 26))
              have HD0 : Hid ((u2.alloc (.cells #[.string xa, .string xb] 26)).drew.cell? ⟨u2.heap.size, 0, none⟩ = some (.string xa)) := hbox.1
              have HD1 : Hid ((u2.alloc (.cells #[.string xa, .string xb] 26)).drew.cell? ⟨u2.heap.size, 1, none⟩ = some (.string xb)) := hbox.2
              have HBR := Lib.hid (hbu.alloc hbu.size (.cells #[.string xa, .string xb] 26)).drew
              have hS1 : (xa.toList == xa.toList) = true := by simp
              have hS2 : (xb.toList == xb.toList) = true := by simp
              clear hb2 hbu hbx hbox
              go_wp2_with fail
              go_region_held3 (fun W => W.cell? (ad.add (k * 2)) = some (.string xa) ∧ W.cell? { block := (ad.add (k * 2)).block, off := (ad.add (k * 2)).off + 1 } = some (.string xb) ∧ W.cell? ⟨u2.heap.size, 0, none⟩ = some (.string xa) ∧ W.cell? ⟨u2.heap.size, 1, none⟩ = some (.string xb)) (exact ⟨HC0.out, HC1.out, HD0.out, HD1.out⟩) (fail)
              go_wp2_with fail
              go_roundw
              case rel => exact ⟨k + 1, by omega, by go_num, HBR.out⟩
              case measure => simp [intOf]; omega
            · have hi1 : ¬ (k : Int) < (z0.length : Int) := by omega
              have HB4 := Lib.hid hbel
              clear hbel
              go_wp2_with fail
              refine (ex9_any _).mono ?_
              rintro e v4 ⟨rfl, hb4⟩
              go_wp2_with fail
              go_ret
              exact ⟨rfl, below_then HB4.out hb4⟩
        · have hC1 : (C == 0) = false := by simpa using hC0
          have hC2 : (C != 0) = true := by simpa using hC0
          go_wp2_with fail
          refine (CE.out _ HB2.out C rfl).mono ?_
          rintro e v3 ⟨rfl, hb3⟩
          have HB3 := Lib.hid (below_then HB2.out hb3)
          clear hb3
          go_wp2_with fail
          refine (ex9_any _).mono ?_
          rintro e v4 ⟨rfl, hb4⟩
          go_wp2_with fail
          go_ret
          exact ⟨rfl, below_then HB3.out hb4⟩
      · have hE1 : (E == 0) = false := by simpa using hE
        go_enter Try.func6, Try.ntmps6
        go_wp2_with fail
        refine CF.out.mono ?_
        rintro e v1 ⟨rfl, rfl⟩
        go_wp2_with fail
        refine (C1.out _).mono ?_
        rintro e v1 ⟨rfl, hb1⟩
        have hb1a := hb1.alloc hb1.size (.cells #[.string fa, .string fb] 26)
        have HB2 := Lib.hid hb1a
        clear hb1 hb1a
        by_cases hC0 : C = 0
        · have hLB := HLB.out (by rw [← HC.out]; exact hC0)
          have HLX := Lib.hid hLB
          subst hC0
          clear hLB
          go_wp2_with fail
          refine (CE.out _ HB2.out 0 rfl).mono ?_
          rintro e v3 ⟨rfl, hb3⟩
          have HB3 := Lib.hid (below_then HB2.out hb3)
          clear hb3
          go_wp2_with fail
          go_loopw [7] (fun i wr => ∃ k : Nat, k ≤ z0.length ∧ i = .int .i64 k ∧ Below w.heap.size w wr) (fun i _ => z0.length - (intOf i).toNat)
          case atStart => exact ⟨0, Nat.zero_le _, rfl, HB3.out⟩
          case round =>
            obtain ⟨k, hk, rfl, hbel⟩ := hrel
            by_cases hlt : k < z0.length
            · obtain ⟨ad, rfl, hc⟩ := w0.at_ (by omega)
              obtain ⟨hc0, hc1⟩ := hc k z0[k] (List.getElem?_eq_getElem hlt)
              have hz := HS.out _ (List.getElem_mem hlt)
              have hbk := HLX.out _ (List.getElem_mem hlt)
              generalize z0[k] = x at *
              have cl := fun W => line_any x (by omega) W
              have hls := line_size x
              have cp := fun W => parse_any (lineS x) W (by rw [hls]; have : (1002 : Nat) ≤ maxLen := by decide
                                                            omega)
              rw [hbk.1, hbk.2] at cp
              generalize lineS x = S at *
              obtain ⟨xa, xb⟩ := x
              unfold fdV at cl cp
              have CL := Lib.hid cl
              have CP := Lib.hid cp
              have HC0 := Lib.hid (cell_kept hbel hc0)
              have HC1 := Lib.hid (fd_snd (cell_kept hbel hc1))
              have hcell0 := HC0.out
              have hcell1 := HC1.out
              have hi0 : (0 : Int) ≤ (k : Int) := by omega
              have hi1 : (k : Int) < (z0.length : Int) := by omega
              have HBR := Lib.hid hbel
              clear hc hc0 hc1 cl cp hz hbk hls hbel
              go_wp2_with fail
              refine (CL.out _).mono ?_
              rintro e u1 ⟨rfl, hb1⟩
              have HC0 := Lib.hid (cell_kept hb1 HC0.out)
              have HC1 := Lib.hid (cell_kept hb1 HC1.out)
              have HBR := Lib.hid (below_then HBR.out hb1)
              clear hb1 hcell0 hcell1
              go_wp2_with fail
              refine (CP.out _).mono ?_
              rintro e u2 ⟨rfl, hb2⟩
              have hbu := below_then HBR.out hb2
              have hbx : Below u2.heap.size u2 (u2.alloc (.cells #[.string xa, .string xb] 26)) := (Below.refl _ _).alloc (Nat.le_refl _) _
              have HC0 : Hid ((u2.alloc (.cells #[.string xa, .string xb] 26)).drew.cell? (ad.add (k * 2)) = some (.string xa)) := cell_kept hbx (cell_kept hb2 HC0.out)
              have HC1 : Hid ((u2.alloc (.cells #[.string xa, .string xb] 26)).drew.cell? { block := (ad.add (k * 2)).block, off := (ad.add (k * 2)).off + 1 } = some (.string xb)) := cell_kept hbx (cell_kept hb2 HC1.out)
              have hbox := zero_two (heap_alloc_new u2 (.cells #[.string xa, .string xb] 26))
              have HD0 : Hid ((u2.alloc (.cells #[.string xa, .string xb] 26)).drew.cell? ⟨u2.heap.size, 0, none⟩ = some (.string xa)) := hbox.1
              have HD1 : Hid ((u2.alloc (.cells #[.string xa, .string xb] 26)).drew.cell? ⟨u2.heap.size, 1, none⟩ = some (.string xb)) := hbox.2
              have HBR := Lib.hid (hbu.alloc hbu.size (.cells #[.string xa, .string xb] 26)).drew
              have hS1 : (xa.toList == xa.toList) = true := by simp
              have hS2 : (xb.toList == xb.toList) = true := by simp
              clear hb2 hbu hbx hbox
              go_wp2_with fail
              go_region_held3 (fun W => W.cell? (ad.add (k * 2)) = some (.string xa) ∧ W.cell? { block := (ad.add (k * 2)).block, off := (ad.add (k * 2)).off + 1 } = some (.string xb) ∧ W.cell? ⟨u2.heap.size, 0, none⟩ = some (.string xa) ∧ W.cell? ⟨u2.heap.size, 1, none⟩ = some (.string xb)) (exact ⟨HC0.out, HC1.out, HD0.out, HD1.out⟩) (fail)
              go_wp2_with fail
              go_roundw
              case rel => exact ⟨k + 1, by omega, by go_num, HBR.out⟩
              case measure => simp [intOf]; omega
            · have hi1 : ¬ (k : Int) < (z0.length : Int) := by omega
              have HB4 := Lib.hid hbel
              clear hbel
              go_wp2_with fail
              refine (ex9_any _).mono ?_
              rintro e v4 ⟨rfl, hb4⟩
              go_wp2_with fail
              go_ret
              exact ⟨rfl, below_then HB4.out hb4⟩
        · have hC1 : (C == 0) = false := by simpa using hC0
          have hC2 : (C != 0) = true := by simpa using hC0
          go_wp2_with fail
          refine (CE.out _ HB2.out C rfl).mono ?_
          rintro e v3 ⟨rfl, hb3⟩
          have HB3 := Lib.hid (below_then HB2.out hb3)
          clear hb3
          go_wp2_with fail
          refine (ex9_any _).mono ?_
          rintro e v4 ⟨rfl, hb4⟩
          go_wp2_with fail
          go_ret
          exact ⟨rfl, below_then HB3.out hb4⟩

set_option maxRecDepth 100000 in
theorem lifted (os : Os) (started : os.Started) (H : Type) (enc : TypeId × Value → H) :
    ReturnsInHanded {} Try.checked os 6 .any (Rows.fieldsBackSpec.pre6 enc Try.prog Try.f6 Rows.fieldsBackRow.domain false) (Rows.fieldsBackSpec.post enc Try.prog Try.f6 false true false false) := by
  refine returnsInHanded_of_change (C := Try.checked) own started (by kernel_rfl) Try.func6
    (ChangeSpec.witness6 (enc := enc) (C := Try.checked) false ⟨#[], #[.slice none 0 0, .string ByteArray.empty], []⟩ 8 (by kernel_rfl) (by kernel_rfl) (by kernel_rfl) (by kernel_rfl)) ?_
  intro W base args ds gs before hval0 hW hcnd _
  have hval : ∀ (j : Nat) t v, Try.f6.params[j]? = some t → args[j]? = some v → Value.okWide Try.prog W .any base t v := hval0
  have hW' := hW
  obtain ⟨p, q, hA0, hV, rfl, hfz, hnd⟩ := hW
  have hA : DataW.TrodAll enc Try.prog W 0 (fun _ => true) true Try.f6.params.toList args.toList ds p := hA0
  rw [Try.params6] at hA hval
  obtain ⟨v0, vs0, d0, ds0, p0, q0, hargs, rfl, rfl, h0, r0⟩ := trodAll_cons hA
  obtain ⟨v1, vs1, d1, ds1, p1, q1, rfl, rfl, rfl, h1, r1⟩ := trodAll_cons r0
  obtain ⟨rfl, rfl, rfl⟩ := trodAll_nil r1
  obtain rfl : args = #[v0, v1] := by cases args; simp_all
  obtain ⟨rfl, rfl⟩ := trodVars_none hV
  obtain ⟨a0, len0, cap0, rfl⟩ := okWide_slice Try.underlying22 (hval 0 22 v0 rfl rfl)
  have k0 := h0
  have lt0 : ∀ x ∈ p0, x.block < W.heap.size := by obtain ⟨m, hm⟩ := k0; exact DataW.trod_lt m _ _ _ hm
  obtain ⟨z0, w0⟩ := SlF.of_trod Try.underlying22 Try.underlying26 (by kernel_rfl) rfl rfl (by kernel_rfl) (by kernel_rfl) Try.underlying9 Try.underlying9 h0
  obtain ⟨a1, rfl, rfl, rfl, w1⟩ := open_string Try.underlying9 (hval 1 9 v1 rfl rfl) h1
  clear hA0 hval0
  refine (walk a0 len0 cap0 z0 a1 W w0 w1).mono fun e W' ⟨he, bel⟩ => ?_
  subst he
  exact ⟨_, rfl, _, _, _, [], _, [], hW', trodAll_mk1 (shut_bool Try.underlying4 _), (trodAll_cons_mk (Below.trod laidOut (by kernel_rfl) (of_decide_eq_true (by kernel_rfl)) k0 bel lt0) (trodAll_cons_mk (shut_string Try.underlying9 w1) trodAll_mk0)), rfl, bel.frame _, fun h => by cases h⟩

theorem over : Rows.fieldsBackRow.holds Try.pinned (OpenSpec.ofChange Rows.fieldsBackSpec) :=
  OpenClaim.holds_of_wide 6 Try.f6 rfl rfl rfl rfl rfl rfl rfl ⟨rfl, rfl, rfl, rfl, rfl⟩ rfl rfl rfl rfl rfl (by kernel_rfl) Try.func6 (by kernel_rfl)
    (of_decide_eq_true (by kernel_rfl)) (by unfold Func.isWrapper; first | (rw [if_pos (by decide +kernel)]; kernel_rfl) | (rw [if_neg (by decide +kernel)]; exact ⟨rfl, rfl⟩))
    (fun os started H enc _ => lifted os started H enc)

theorem proved : Rows.FieldsBackSaid := over
#print axioms proved
end Go.Proofs.Yteiihnniodkjbaa.fieldsBack
