/-
  The law FieldsTurns (depotlaw09) returns true for every two lists of fields, every list of names and every field, and leaves what it was given as it was. No condition.
-/
import Derived.Test.YteiihnniodkjbaaRows
import Derived.WalkKit
import Derived.ProofKit
import Derived.OpenShut
import Derived.ShutString
import Derived.ChangeOld
import Derived.Below
import Derived.Test.YteiihnniodkjbaaFldY
import Derived.Deep.RegionHeld3
import Derived.SliceStrings
import Derived.Lib.SmallJoins
namespace Go.Proofs.Yteiihnniodkjbaa.fieldsTurns
open Go.ChangeShapes Go.WideShapes Go.ChangeAt Go.RowKit
open Go.ChangeMaps (open_string shut_string)
set_option linter.unusedVariables false

theorem own : ownKnob Try.prog.godebug = none := by kernel_rfl
theorem laidOut : laidOutB Try.prog = true := by kernel_rfl

set_option maxHeartbeats 8000000 in
set_option maxRecDepth 100000 in
theorem walk (a0 : Option Addr) (len0 cap0 : Nat) (z0 : List Fd) (a1 : Option Addr) (len1 cap1 : Nat) (z1 : List (List UInt8)) (a2 b2 : ByteArray) (a3 : Option Addr) (len3 cap3 : Nat) (z3 : List Fd) (w : World) (w0 : SlF w a0 len0 cap0 z0) (w1 : SlS w a1 len1 cap1 z1 ∧ ∀ x ∈ z1, x.length ≤ maxLen) (w2 : a2.size ≤ maxLen ∧ b2.size ≤ maxLen) (w3 : SlF w a3 len3 cap3 z3) :
    Calls Try.prog 5 #[.slice a0 len0 cap0, .slice a1 len1 cap1, .agg #[.string a2, .string b2], .slice a3 len3 cap3] w fun e w' => e = .returned (.bool true) ∧ Below w.heap.size w w' := by
  obtain ⟨wn, wnz⟩ := w1
  have hlen := w0.len
  have hlem := w3.len
  have hnl := wn.len
  have hbx : Below w.heap.size w (w.alloc (.cells #[.string a2, .string b2] 26)) := (Below.refl _ _).alloc (Nat.le_refl _) _
  have hbox := heap_alloc_new w (.cells #[.string a2, .string b2] 26)
  have HBX := Lib.hid hbx
  have HBOX := Lib.hid hbox
  have CF := Lib.hid (few_70 500 500 rfl a0 len0 cap0 z0 _ (w0.below hbx))
  have CM := Lib.hid (few_70 500 500 rfl a3 len3 cap3 z3 _ (w3.below hbx))
  cases hfw : fewB z0 70 500 with
  | false =>
    rw [hfw] at CF
    clear hfw hbx hbox
    go_enter Try.func5, Try.ntmps5
    go_wp2_with fail
    refine CF.out.mono ?_
    rintro e w1 ⟨rfl, rfl⟩
    go_wp2_with fail
    refine (ex9_any _).mono ?_
    rintro e w2 ⟨rfl, hb2⟩
    go_wp2_with fail
    go_ret
    exact ⟨rfl, below_then HBX.out hb2⟩
  | true =>
    rw [hfw] at CF
    cases hfm : fewB z3 70 500 with
    | false =>
      rw [hfm] at CM
      clear hfw hfm hbx hbox
      go_enter Try.func5, Try.ntmps5
      go_wp2_with fail
      refine CF.out.mono ?_
      rintro e w1 ⟨rfl, rfl⟩
      go_wp2_with fail
      refine CM.out.mono ?_
      rintro e w1 ⟨rfl, rfl⟩
      go_wp2_with fail
      refine (ex9_any _).mono ?_
      rintro e w2 ⟨rfl, hb2⟩
      go_wp2_with fail
      go_ret
      exact ⟨rfl, below_then HBX.out hb2⟩
    | true =>
      rw [hfm] at CM
      by_cases hk : (20 : Int) < (len1 : Int)
      · clear hfw hfm hbx hbox
        go_enter Try.func5, Try.ntmps5
        go_wp2_with fail
        refine CF.out.mono ?_
        rintro e w1 ⟨rfl, rfl⟩
        go_wp2_with fail
        refine CM.out.mono ?_
        rintro e w1 ⟨rfl, rfl⟩
        go_wp2_with fail
        refine (ex9_any _).mono ?_
        rintro e w2 ⟨rfl, hb2⟩
        go_wp2_with fail
        go_ret
        exact ⟨rfl, below_then HBX.out hb2⟩
      · have hs1 : SlF ((w.alloc (.cells #[.string a2, .string b2] 26)).alloc (.cells #[.string a2, .string b2] 26)) (some ⟨w.heap.size + 1, 0, none⟩) 1 1 [(a2, b2)] := by
          have := SlF.one (w.alloc (.cells #[.string a2, .string b2] 26)) 26 (a2, b2) w2
          rwa [show (w.alloc (.cells #[.string a2, .string b2] 26)).heap.size = w.heap.size + 1 by simp] at this
        have CG := Lib.hid (few_1 500 500 rfl _ 1 1 [(a2, b2)] _ hs1)
        have HB1 := Lib.hid (hbx.alloc hbx.size (.cells #[.string a2, .string b2] 26))
        have HBO1 := Lib.hid (zero_more (o' := .cells #[.string a2, .string b2] 26) hbox)
        obtain ⟨o0, o1⟩ := zero_two hbox
        clear hs1 hbx
        cases hfx : fewB [(a2, b2)] 1 500 with
        | false =>
          rw [hfx] at CG
          clear hfw hfm hfx hbox
          go_enter Try.func5, Try.ntmps5
          go_wp2_with fail
          refine CF.out.mono ?_
          rintro e w1 ⟨rfl, rfl⟩
          go_wp2_with fail
          refine CM.out.mono ?_
          rintro e w1 ⟨rfl, rfl⟩
          go_wp2_with fail
          refine CG.out.mono ?_
          rintro e w1 ⟨rfl, rfl⟩
          go_wp2_with fail
          refine (ex9_any _).mono ?_
          rintro e w2 ⟨rfl, hb2⟩
          go_wp2_with fail
          go_ret
          exact ⟨rfl, below_then HB1.out hb2⟩
        | true =>
          rw [hfx] at CG
          have hB := few_bd hfw (by decide)
          have hBm := few_bd hfm (by decide)
          obtain ⟨hl, hs⟩ := few_yes hfw
          obtain ⟨hlm, hsm⟩ := few_yes hfm
          have hf := (few_yes hfx).2 (a2, b2) (List.mem_cons_self ..)
          simp only at hf
          have hfb : Bd (a2, b2) := ⟨by show a2.size ≤ _; omega, by show b2.size ≤ _; omega⟩
          obtain ⟨X, hX⟩ : ∃ X, X = fdDrop z0 z1 := ⟨_, rfl⟩
          obtain ⟨S, hS⟩ : ∃ S, S = fdSet z0 (a2, b2) := ⟨_, rfl⟩
          have hXz : ∀ x ∈ X, x.1.size ≤ maxLen ∧ x.2.size ≤ maxLen := fun x hx => by rw [hX] at hx; exact ⟨(hB x (drop_mem hx)).one, (hB x (drop_mem hx)).two⟩
          have hSz : ∀ x ∈ S, x.1.size ≤ maxLen ∧ x.2.size ≤ maxLen := fun x hx => by
            rw [hS] at hx
            rcases set_mem hx with rfl | h
            · exact w2
            · exact ⟨(hB x h).one, (hB x h).two⟩
          have hXl : X.length ≤ 70 := by rw [hX]; exact Nat.le_trans (drop_len _ _) hl
          have hSl : S.length ≤ 71 := by
            have h1 := set_len z0 (a2, b2)
            have h2 := drop_len z0 [((a2, b2) : Fd).1.data.toList]
            rw [hS]; omega
          have c1 := fun W (hb : Below w.heap.size w W) => drop_any a0 a1 len0 cap0 len1 cap1 z0 z1 W (w0.below hb) (by omega) hB (wn.below hb) wnz (by omega)
          have c2 := fun W (hb : Below w.heap.size w W) => rf_drop a0 a1 len0 cap0 len1 cap1 z0 z1 W (w0.below hb) (by omega) (wn.below hb) wnz (by omega)
          have c3 := fun W (hb : Below w.heap.size w W) => setF_any a0 len0 cap0 z0 (a2, b2) W (w0.below hb) (by omega) hB hfb
          have c4 := fun W (hb : Below w.heap.size w W) => rf_set a0 len0 cap0 z0 (a2, b2) W (w0.below hb) (by omega) w2
          have c5 := fun W (hb : Below w.heap.size w W) => same_fields a0 a3 len0 cap0 len3 cap3 z0 z3 W (w0.below hb) (w3.below hb) (by omega) hB hBm
          have c6 := fun W (hb : Below w.heap.size w W) => rf_same a0 a3 len0 cap0 len3 cap3 z0 z3 W (w0.below hb) (w3.below hb) (by omega)
          have c7 := fun (A B : Option Addr) (c d : Nat) (Y : List Fd) W (h : SlF W A Y.length c Y) (g : SlF W B Y.length d Y) (hn : Y.length ≤ 100000000) => rf_equal A B Y.length c Y.length d Y Y W h g hn
          have c7 := fun (A B : Option Addr) (c d : Nat) (Y : List Fd) W (h : SlF W A Y.length c Y) (g : SlF W B Y.length d Y) (hn : Y.length ≤ 100000000) => (c7 A B c d Y W h g hn).mono fun e w' (hq : e = .returned (.bool (bthP eqF Y Y)) ∧ Below W.heap.size W w') => show e = .returned (.bool true) ∧ Below W.heap.size W w' from ⟨by rw [hq.1, bthP_refl eqF eqF_refl], hq.2⟩
          rw [← hX] at c1 c2
          rw [← hS] at c3 c4
          generalize bth z0 z3 = q at *
          have C1 := Lib.hid c1
          have C2 := Lib.hid c2
          have C3 := Lib.hid c3
          have C4 := Lib.hid c4
          have C5 := Lib.hid c5
          have C6 := Lib.hid c6
          have C7 := Lib.hid c7
          have HXZ := Lib.hid hXz
          have HSZ := Lib.hid hSz
          have HXL := Lib.hid (show X.length ≤ 100000000 by omega)
          have HSL := Lib.hid (show S.length ≤ 100000000 by omega)
          clear c1 c2 c3 c4 c5 c6 c7 hX hS hXz hSz hXl hSl hB hBm hs hsm hf hfb hfw hfm hfx hl hlm hlen hlem hnl
          have hbU : Below w.heap.size w ((w.alloc (.cells #[.string a2, .string b2] 26)).alloc (.cells #[.string a2, .string b2] 26)).drew := HB1.out.drew
          have HOD : Hid (((w.alloc (.cells #[.string a2, .string b2] 26)).alloc (.cells #[.string a2, .string b2] 26)).drew.heap[w.heap.size]? = some (.cells #[.string a2, .string b2] 26 (0, 0))) := HBO1.out
          have hqq : (q == q) = true := by simp
          cases q
          all_goals
            go_enter Try.func5, Try.ntmps5
            go_wp2_with fail
            refine CF.out.mono ?_
            rintro e w1 ⟨rfl, rfl⟩
            go_wp2_with fail
            refine CM.out.mono ?_
            rintro e w1 ⟨rfl, rfl⟩
            go_wp2_with fail
            refine CG.out.mono ?_
            rintro e w1 ⟨rfl, rfl⟩
            go_wp2_with fail
            go_region_held3 (fun W => W.cell? ⟨w.heap.size, 0, none⟩ = some (.string a2) ∧ W.cell? ⟨w.heap.size, 1, none⟩ = some (.string b2)) (with_reducible exact zero_two HOD.out) (first
              | (go_at_call 24; refine (C1.out _ hbU).mono ?_; rintro e u1 ⟨v1, rfl, ho1, hb1⟩; obtain ⟨A1, d1, rfl, hx1⟩ := ho1.slf HXZ.out; have HX1 := Lib.hid hx1; have HOD := Lib.hid (zero_still hb1 HOD.out); have hbU := below_then hbU hb1; clear ho1 hx1 hb1)
              | (go_at_call 25; refine (C2.out _ hbU).mono ?_; rintro e u2 ⟨v2, rfl, ho2, hb2⟩; obtain ⟨A2, d2, rfl, hx2⟩ := ho2.slf HXZ.out; have HX2 := Lib.hid hx2; have HX1 := Lib.hid (HX1.out.below hb2); have HOD := Lib.hid (zero_still hb2 HOD.out); have hbU := below_then hbU hb2; clear ho2 hx2 hb2)
              | (go_at_call 26; refine (C3.out _ hbU).mono ?_; rintro e u3 ⟨v3, rfl, ho3, hb3⟩; obtain ⟨A3, d3, rfl, hx3⟩ := ho3.slf HSZ.out; have HS1 := Lib.hid hx3; have HOD := Lib.hid (zero_still hb3 HOD.out); have hbU := below_then hbU hb3; clear ho3 hx3 hb3)
              | (go_at_call 27; refine (C4.out _ hbU).mono ?_; rintro e u4 ⟨v4, rfl, ho4, hb4⟩; obtain ⟨A4, d4, rfl, hx4⟩ := ho4.slf HSZ.out; have HS2 := Lib.hid hx4; have HS1 := Lib.hid (HS1.out.below hb4); have HOD := Lib.hid (zero_still hb4 HOD.out); have hbU := below_then hbU hb4; clear ho4 hx4 hb4)
              | (go_at_call 23; refine (C7.out _ _ _ _ _ _ (by first | with_reducible exact HX1.out | with_reducible exact HS1.out) (by first | with_reducible exact HX2.out | with_reducible exact HS2.out) (by first | with_reducible exact HXL.out | with_reducible exact HSL.out)).mono ?_; rintro e u5 ⟨rfl, hb5⟩; have HOD := Lib.hid (zero_still hb5 HOD.out); have hbU := below_then hbU hb5; clear hb5)
              | (go_at_call 28; refine (C5.out _ hbU).mono ?_; rintro e u6 ⟨rfl, hb6⟩; have HOD := Lib.hid (zero_still hb6 HOD.out); have hbU := below_then hbU hb6; clear hb6)
              | (go_at_call 29; refine (C6.out _ hbU).mono ?_; rintro e u7 ⟨rfl, hb7⟩; have HOD := Lib.hid (zero_still hb7 HOD.out); have hbU := below_then hbU hb7; clear hb7)
              | (go_at_call 9; refine (ex9_any _).mono ?_; rintro e u8 ⟨rfl, hb8⟩; have HOD := Lib.hid (zero_still hb8 HOD.out); have hbU := below_then hbU hb8; clear hb8))
            go_wp2_with fail
            go_ret
            exact ⟨rfl, hbU⟩

set_option maxRecDepth 100000 in
theorem lifted (os : Os) (started : os.Started) (H : Type) (enc : TypeId × Value → H) :
    ReturnsInHanded {} Try.checked os 5 .any (Rows.fieldsTurnsSpec.pre6 enc Try.prog Try.f5 Rows.fieldsTurnsRow.domain false) (Rows.fieldsTurnsSpec.post enc Try.prog Try.f5 false true false false) := by
  refine returnsInHanded_of_change (C := Try.checked) own started (by kernel_rfl) Try.func5
    (ChangeSpec.witness6 (enc := enc) (C := Try.checked) false ⟨#[], #[.slice none 0 0, .slice none 0 0, .agg #[.string ByteArray.empty, .string ByteArray.empty], .slice none 0 0], []⟩ 8 (by kernel_rfl) (by kernel_rfl) (by kernel_rfl) (by kernel_rfl)) ?_
  intro W base args ds gs before hval0 hW hcnd _
  have hval : ∀ (j : Nat) t v, Try.f5.params[j]? = some t → args[j]? = some v → Value.okWide Try.prog W .any base t v := hval0
  have hW' := hW
  obtain ⟨p, q, hA0, hV, rfl, hfz, hnd⟩ := hW
  have hA : DataW.TrodAll enc Try.prog W 0 (fun _ => true) true Try.f5.params.toList args.toList ds p := hA0
  rw [Try.params5] at hA hval
  obtain ⟨v0, vs0, d0, ds0, p0, q0, hargs, rfl, rfl, h0, r0⟩ := trodAll_cons hA
  obtain ⟨v1, vs1, d1, ds1, p1, q1, rfl, rfl, rfl, h1, r1⟩ := trodAll_cons r0
  obtain ⟨v2, vs2, d2, ds2, p2, q2, rfl, rfl, rfl, h2, r2⟩ := trodAll_cons r1
  obtain ⟨v3, vs3, d3, ds3, p3, q3, rfl, rfl, rfl, h3, r3⟩ := trodAll_cons r2
  obtain ⟨rfl, rfl, rfl⟩ := trodAll_nil r3
  obtain rfl : args = #[v0, v1, v2, v3] := by cases args; simp_all
  obtain ⟨rfl, rfl⟩ := trodVars_none hV
  obtain ⟨a0, len0, cap0, rfl⟩ := okWide_slice Try.underlying22 (hval 0 22 v0 rfl rfl)
  have k0 := h0
  have lt0 : ∀ x ∈ p0, x.block < W.heap.size := by obtain ⟨m, hm⟩ := k0; exact DataW.trod_lt m _ _ _ hm
  obtain ⟨z0, w0⟩ := SlF.of_trod Try.underlying22 Try.underlying26 (by kernel_rfl) rfl rfl (by kernel_rfl) (by kernel_rfl) Try.underlying9 Try.underlying9 h0
  obtain ⟨a1, len1, cap1, rfl⟩ := okWide_slice Try.underlying39 (hval 1 39 v1 rfl rfl)
  have k1 := h1
  have lt1 : ∀ x ∈ p1, x.block < W.heap.size := by obtain ⟨m, hm⟩ := k1; exact DataW.trod_lt m _ _ _ hm
  obtain ⟨z1, w1⟩ : ∃ L, SlS W a1 len1 cap1 L ∧ ∀ x ∈ L, x.length ≤ maxLen := by
    obtain ⟨fuel, hf⟩ := h1
    rcases open_strings Try.underlying39 Try.underlying9 (by kernel_rfl) hf with ⟨hcs, _⟩ | ⟨x, l, c, ss, hcs, _, hl, hm, hz, _, hcell, hwz⟩
    · simp [Value.cells] at hcs
      obtain ⟨rfl, rfl, rfl⟩ := hcs
      exact SlS.of_row (z := []) (.inl ⟨rfl, rfl, rfl, rfl⟩)
    · simp [Value.cells] at hcs
      obtain ⟨rfl, rfl, rfl⟩ := hcs
      exact SlS.of_row (z := ss) (.inr ⟨_, rfl, hl, hm, by simpa using hz, hcell, hwz⟩)
  obtain ⟨f0, f1, y0, y1, m, rfl, rfl, rfl, hy0, hy1⟩ := Go.Joins.open_agg2 Try.underlying26 (by kernel_rfl) (by kernel_rfl) (hval 2 26 v2 rfl rfl) h2
  obtain ⟨a2, e0, rfl, wa⟩ := DataW.trod_string Try.underlying9 hy0
  obtain ⟨b2, e1, rfl, wb⟩ := DataW.trod_string Try.underlying9 hy1
  simp at e0 e1
  subst e0 e1
  have w2 := And.intro wa wb
  obtain ⟨a3, len3, cap3, rfl⟩ := okWide_slice Try.underlying22 (hval 3 22 v3 rfl rfl)
  have k3 := h3
  have lt3 : ∀ x ∈ p3, x.block < W.heap.size := by obtain ⟨m, hm⟩ := k3; exact DataW.trod_lt m _ _ _ hm
  obtain ⟨z3, w3⟩ := SlF.of_trod Try.underlying22 Try.underlying26 (by kernel_rfl) rfl rfl (by kernel_rfl) (by kernel_rfl) Try.underlying9 Try.underlying9 h3
  clear hA0 hval0
  refine (walk a0 len0 cap0 z0 a1 len1 cap1 z1 a2 b2 a3 len3 cap3 z3 W w0 w1 w2 w3).mono fun e W' ⟨he, bel⟩ => ?_
  subst he
  exact ⟨_, rfl, _, _, _, [], _, [], hW', trodAll_mk1 (shut_bool Try.underlying4 _), (trodAll_cons_mk (Below.trod laidOut (by kernel_rfl) (of_decide_eq_true (by kernel_rfl)) k0 bel lt0) (trodAll_cons_mk (Below.trod laidOut (by kernel_rfl) (of_decide_eq_true (by kernel_rfl)) k1 bel lt1) (trodAll_cons_mk (Go.Joins.shut_agg2 Try.underlying26 (by kernel_rfl) (by kernel_rfl) (Go.Joins.field_of_Trod (shut_string Try.underlying9 w2.1) rfl) (Go.Joins.field_of_Trod (shut_string Try.underlying9 w2.2) rfl)) (trodAll_cons_mk (Below.trod laidOut (by kernel_rfl) (of_decide_eq_true (by kernel_rfl)) k3 bel lt3) trodAll_mk0)))), rfl, bel.frame _, fun h => by cases h⟩

theorem over : Rows.fieldsTurnsRow.holds Try.pinned (OpenSpec.ofChange Rows.fieldsTurnsSpec) :=
  OpenClaim.holds_of_wide 5 Try.f5 rfl rfl rfl rfl rfl rfl rfl ⟨rfl, rfl, rfl, rfl, rfl⟩ rfl rfl rfl rfl rfl (by kernel_rfl) Try.func5 (by kernel_rfl)
    (of_decide_eq_true (by kernel_rfl)) (by unfold Func.isWrapper; first | (rw [if_pos (by decide +kernel)]; kernel_rfl) | (rw [if_neg (by decide +kernel)]; exact ⟨rfl, rfl⟩))
    (fun os started H enc _ => lifted os started H enc)

theorem proved : Rows.FieldsTurnsSaid := over
#print axioms proved
end Go.Proofs.Yteiihnniodkjbaa.fieldsTurns
