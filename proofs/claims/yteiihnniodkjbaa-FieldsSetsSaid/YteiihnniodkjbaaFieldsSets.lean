/-
  The law FieldsSets (depotlaw09) returns true for every list of fields, every field and every name, and leaves what it was given as it was. No condition.
-/
import Derived.Test.YteiihnniodkjbaaRows
import Derived.WalkKit
import Derived.ProofKit
import Derived.OpenShut
import Derived.ShutString
import Derived.ChangeOld
import Derived.Below
import Derived.Test.YteiihnniodkjbaaFldY
import Derived.Deep.RegionHeld3
import Derived.Lib.SmallJoins
namespace Go.Proofs.Yteiihnniodkjbaa.fieldsSets
open Go.ChangeShapes Go.WideShapes Go.ChangeAt Go.RowKit
open Go.ChangeMaps (open_string shut_string)
set_option linter.unusedVariables false

theorem own : ownKnob Try.prog.godebug = none := by kernel_rfl
theorem laidOut : laidOutB Try.prog = true := by kernel_rfl

set_option maxHeartbeats 8000000 in
set_option maxRecDepth 100000 in
theorem walk (a0 : Option Addr) (len0 cap0 : Nat) (z0 : List Fd) (a1 b1 : ByteArray) (a2 : ByteArray) (w : World) (w0 : SlF w a0 len0 cap0 z0) (w1 : a1.size ≤ maxLen ∧ b1.size ≤ maxLen) (w2 : a2.size ≤ maxLen) :
    Calls Try.prog 7 #[.slice a0 len0 cap0, .agg #[.string a1, .string b1], .string a2] w fun e w' => e = .returned (.bool true) ∧ Below w.heap.size w w' := by
  have hlen := w0.len
  have cf := few_70 500 500 rfl a0 len0 cap0 z0
  have hbx : Below w.heap.size w (w.alloc (.cells #[.string a1, .string b1] 26)) := (Below.refl _ _).alloc (Nat.le_refl _) _
  have hbox := heap_alloc_new w (.cells #[.string a1, .string b1] 26)
  have HBX := Lib.hid hbx
  have HBOX := Lib.hid hbox
  have CF := Lib.hid (cf _ (w0.below hbx))
  clear cf
  cases hfw : fewB z0 70 500 with
  | false =>
    rw [hfw] at CF
    clear hfw hbx hbox
    go_enter Try.func7, Try.ntmps7
    go_wp2_with fail
    refine CF.out.mono ?_
    rintro e w1 ⟨rfl, rfl⟩
    go_wp2_with fail
    refine (ex9_any _).mono ?_
    rintro e w2 ⟨rfl, hb2⟩
    go_wp2_with fail
    go_ret
    exact ⟨rfl, below_then HBX.out hb2⟩
  | true =>
    rw [hfw] at CF
    have hs1 : SlF ((w.alloc (.cells #[.string a1, .string b1] 26)).alloc (.cells #[.string a1, .string b1] 26)) (some ⟨w.heap.size + 1, 0, none⟩) 1 1 [(a1, b1)] := by
      have := SlF.one (w.alloc (.cells #[.string a1, .string b1] 26)) 26 (a1, b1) w1
      rwa [show (w.alloc (.cells #[.string a1, .string b1] 26)).heap.size = w.heap.size + 1 by simp] at this
    have CG := Lib.hid (few_1 500 500 rfl _ 1 1 [(a1, b1)] _ hs1)
    have HB1 := Lib.hid (hbx.alloc hbx.size (.cells #[.string a1, .string b1] 26))
    have HBO1 := Lib.hid (zero_more (o' := .cells #[.string a1, .string b1] 26) hbox)
    obtain ⟨o0, o1⟩ := zero_two hbox
    clear hs1 hbx
    cases hfx : fewB [(a1, b1)] 1 500 with
    | false =>
      rw [hfx] at CG
      clear hfw hfx hbox
      go_enter Try.func7, Try.ntmps7
      go_wp2_with fail
      refine CF.out.mono ?_
      rintro e w1 ⟨rfl, rfl⟩
      go_wp2_with fail
      refine CG.out.mono ?_
      rintro e w1 ⟨rfl, rfl⟩
      go_wp2_with fail
      refine (ex9_any _).mono ?_
      rintro e w2 ⟨rfl, hb2⟩
      go_wp2_with fail
      go_ret
      exact ⟨rfl, below_then HB1.out hb2⟩
    | true =>
      rw [hfx] at CG
      by_cases h2 : (500 : Int) < (a2.size : Int)
      · clear hfw hfx hbox
        go_enter Try.func7, Try.ntmps7
        go_wp2_with fail
        refine CF.out.mono ?_
        rintro e w1 ⟨rfl, rfl⟩
        go_wp2_with fail
        refine CG.out.mono ?_
        rintro e w1 ⟨rfl, rfl⟩
        go_wp2_with fail
        refine (ex9_any _).mono ?_
        rintro e w2 ⟨rfl, hb2⟩
        go_wp2_with fail
        go_ret
        exact ⟨rfl, below_then HB1.out hb2⟩
      · have hB := few_bd hfw (by decide)
        obtain ⟨hl, hs⟩ := few_yes hfw
        have hf := (few_yes hfx).2 (a1, b1) (List.mem_cons_self ..)
        simp only at hf
        have hfb : Bd (a1, b1) := ⟨by show a1.size ≤ _; omega, by show b1.size ≤ _; omega⟩
        -- what is dropped, what is set
        obtain ⟨X, hX⟩ : ∃ X, X = fdDrop z0 [a1.data.toList] := ⟨_, rfl⟩
        obtain ⟨S, hS⟩ : ∃ S, S = fdSet z0 (a1, b1) := ⟨_, rfl⟩
        have hXl : X.length ≤ 70 := by rw [hX]; exact Nat.le_trans (drop_len _ _) hl
        have hSl : S.length = X.length + 1 := by rw [hS, hX]; exact set_len z0 (a1, b1)
        have hXB : ∀ x ∈ X, Bd x := fun x hx => by rw [hX] at hx; exact hB x (drop_mem hx)
        have hSB : ∀ x ∈ S, Bd x := fun x hx => by
          rw [hS] at hx
          rcases set_mem hx with rfl | h
          · exact hfb
          · exact hB x h
        have hX2 : ∀ x ∈ X, x.2.size ≤ 10000 := fun x hx => by rw [hX] at hx; have := (hs x (drop_mem hx)).2; omega
        have hS2 : ∀ x ∈ S, x.2.size ≤ 10000 := fun x hx => by
          rw [hS] at hx
          rcases set_mem hx with rfl | h
          · show b1.size ≤ _; omega
          · have := (hs x h).2; omega
        have g1 : fdGot X a1 = false ∧ fdGet X a1 = ⟨#[]⟩ := by rw [hX]; exact dropped_got z0 a1
        have g2 : fdGot S a1 = true ∧ fdGet S a1 = b1 := by rw [hS]; exact set_got z0 (a1, b1)
        have hnl : ∀ x ∈ [a1.data.toList], x.length ≤ maxLen := fun x hx => by
          simp only [List.mem_singleton] at hx
          subst hx
          rw [← Lib.size_eq]; exact w1.1
        have c1 := fun (B : Option Addr) W (hb : Below w.heap.size w W) (g : SlS W B 1 1 [a1.data.toList]) => drop_any a0 B len0 cap0 1 1 z0 [a1.data.toList] W (w0.below hb) (by omega) hB g hnl (by decide)
        have c2 := fun W (hb : Below w.heap.size w W) => setF_any a0 len0 cap0 z0 (a1, b1) W (w0.below hb) (by omega) hB hfb
        rw [← hX] at c1
        rw [← hS] at c2
        have c3 := fun (A : Option Addr) c W (h : SlF W A X.length c X) => getF_any A X.length c X a1 W h (by omega) hXB w1.1 (fd_join_le X a1 (by omega) hX2)
        rw [g1.1, g1.2] at c3
        have c4 := fun (A : Option Addr) c W (h : SlF W A S.length c S) => getF_any A S.length c S a1 W h (by omega) hSB w1.1 (fd_join_le S a1 (by omega) hS2)
        rw [g2.1, g2.2] at c4
        have c5 := fun W => same_any a2 a1 W w2 w1.1
        have c6 := fun W (hb : Below w.heap.size w W) => all_any a0 len0 cap0 z0 a2 W (w0.below hb) (by omega) hB w2
        have c7 := fun (A : Option Addr) c W (h : SlF W A X.length c X) => all_any A X.length c X a2 W h (by omega) hXB w2
        have c8 := fun (A : Option Addr) c W (h : SlF W A S.length c S) => all_any A S.length c S a2 W h (by omega) hSB w2
        have c9 := fun (A B : Option Addr) c W (h : SlF W A S.length c S) (g : SlS W B 1 1 [a1.data.toList]) => drop_any A B S.length c 1 1 S [a1.data.toList] W h (by omega) hSB g hnl (by decide)
        have hSX : fdDrop S [a1.data.toList] = X := by rw [hS, hX]; exact set_drop z0 (a1, b1)
        rw [hSX] at c9
        have c10 := fun (A B : Option Addr) c d W (h : SlF W A X.length c X) (g : SlF W B X.length d X) => same_fields A B X.length c X.length d X X W h g (by omega) hXB hXB
        rw [bth_self] at c10
        have hoX : sameB a2 a1 = false → fdAll X a2 = fdAll z0 a2 := fun h => by rw [hX]; exact dropped_other z0 a1 a2 h
        have hoS : sameB a2 a1 = false → fdAll S a2 = fdAll z0 a2 := fun h => by rw [hS]; exact set_other z0 (a1, b1) a2 h
        have hVl : (fdAll z0 a2).length ≤ 70 := fd_got_len z0 a2 70 hl
        have hXz : ∀ x ∈ X, x.1.size ≤ maxLen ∧ x.2.size ≤ maxLen := fun x hx => ⟨(hXB x hx).one, (hXB x hx).two⟩
        have hSz : ∀ x ∈ S, x.1.size ≤ maxLen ∧ x.2.size ≤ maxLen := fun x hx => ⟨(hSB x hx).one, (hSB x hx).two⟩
        have C1 := Lib.hid c1
        have C2 := Lib.hid c2
        have C3 := Lib.hid c3
        have C4 := Lib.hid c4
        have C9 := Lib.hid c9
        have C10 := Lib.hid c10
        have HXZ := Lib.hid hXz
        have HSZ := Lib.hid hSz
        have c11 := fun A B c d W (h : SlS W A (fdAll z0 a2).length c (fdAll z0 a2)) (g : SlS W B (fdAll z0 a2).length d (fdAll z0 a2)) => r_sames A B (fdAll z0 a2).length c (fdAll z0 a2).length d (fdAll z0 a2) (fdAll z0 a2) W h g (by omega)
        have hvv : (fdAll z0 a2 == fdAll z0 a2) = true := by simp
        rw [hvv] at c11
        have hlS : (S.length : Int) = (X.length : Int) + 1 := by omega
        have hlX : (X.length : Int) ≤ 70 := by omega
        have HLS := Lib.hid hSl
        have hw1 : IntKind.i64.wrap ((X.length : Int) + 1) = (X.length : Int) + 1 := by rw [IntKind.wrap_i64]; omega
        clear c1 c2 c3 c4 c9 c10 hX hS hXl hSl hXB hSB hX2 hS2 g1 g2 hnl hSX hXz hSz hB hs hf hfb hfw hfx hl hlen hvv
        have hbD : Below w.heap.size w ((w.alloc (.cells #[.string a1, .string b1] 26)).alloc (.cells #[.string a1, .string b1] 26)).drew := HB1.out.drew
        have HOD : Hid (((w.alloc (.cells #[.string a1, .string b1] 26)).alloc (.cells #[.string a1, .string b1] 26)).drew.heap[w.heap.size]? = some (.cells #[.string a1, .string b1] 26 (0, 0))) := HBO1.out
        have HOE : Hid ((((w.alloc (.cells #[.string a1, .string b1] 26)).alloc (.cells #[.string a1, .string b1] 26)).alloc (.cells #[.string a1] 9)).drew.heap[w.heap.size]? = some (.cells #[.string a1, .string b1] 26 (0, 0))) := zero_more HBO1.out
        have hbE : Below w.heap.size w (((w.alloc (.cells #[.string a1, .string b1] 26)).alloc (.cells #[.string a1, .string b1] 26)).alloc (.cells #[.string a1] 9)).drew := (HB1.out.alloc HB1.out.size _).drew
        have HNE : Hid (SlS (((w.alloc (.cells #[.string a1, .string b1] 26)).alloc (.cells #[.string a1, .string b1] 26)).alloc (.cells #[.string a1] 9)).drew (some ⟨w.heap.size + 1 + 1, 0, none⟩) 1 1 [a1.data.toList]) := (SlS.textAt ((w.alloc (.cells #[.string a1, .string b1] 26)).alloc (.cells #[.string a1, .string b1] 26)) 9 a1 (by simp)).drew
        go_enter Try.func7, Try.ntmps7
        go_wp2_with fail
        refine CF.out.mono ?_
        rintro e v1 ⟨rfl, rfl⟩
        go_wp2_with fail
        refine CG.out.mono ?_
        rintro e v1 ⟨rfl, rfl⟩
        go_wp2_with fail
        go_region_held3 (fun W => W.cell? ⟨w.heap.size, 0, none⟩ = some (.string a1) ∧ W.cell? ⟨w.heap.size, 1, none⟩ = some (.string b1)) (first | with_reducible exact zero_two HOD.out | with_reducible exact zero_two HOE.out) (first
          | (go_at_call 24; refine (C1.out _ _ hbE HNE.out).mono ?_; rintro e u1 ⟨v1, rfl, ho1, hb1⟩; obtain ⟨A1, d1, rfl, hx1⟩ := ho1.slf HXZ.out; have HX := Lib.hid hx1; have HOD := Lib.hid (zero_still hb1 HOE.out); have hbU := below_then hbE hb1; clear ho1 hx1 hb1)
          | (go_at_call 26; refine (C2.out _ hbU).mono ?_; rintro e u2 ⟨v2, rfl, ho2, hb2⟩; obtain ⟨A2, d2, rfl, hx2⟩ := ho2.slf HSZ.out; have HS := Lib.hid hx2; have HX := Lib.hid (HX.out.below hb2); have HOD := Lib.hid (zero_still hb2 HOD.out); have hbU := below_then hbU hb2; clear ho2 hx2 hb2))
        have HB2 := Lib.hid hbU
        obtain ⟨q0, q1⟩ := zero_two HOD.out
        clear hbU
        go_wp2_with fail
        refine (C3.out _ _ _ HX.out).mono ?_
        rintro e u3 ⟨rfl, hb3⟩
        have HB3 := Lib.hid (below_then HB2.out hb3)
        have HX3 := Lib.hid (HX.out.below hb3)
        have HS3 := Lib.hid (HS.out.below hb3)
        have HO3 := Lib.hid (zero_still hb3 HOD.out)
        clear hb3 q0 q1 HB2 HX HS HOD
        obtain ⟨q0, q1⟩ := zero_two HO3.out
        go_wp2_with fail
        refine (C4.out _ _ _ HS3.out).mono ?_
        rintro e u4 ⟨rfl, hb4⟩
        have HB4 := Lib.hid (below_then HB3.out hb4)
        have HX4 := Lib.hid (HX3.out.below hb4)
        have HS4 := Lib.hid (HS3.out.below hb4)
        have HO4 := Lib.hid (zero_still hb4 HO3.out)
        clear hb4 q0 q1 HB3 HX3 HS3 HO3
        obtain ⟨q0, q1⟩ := zero_two HO4.out
        have hS2 : (b1.toList == b1.toList) = true := by simp
        have C5 := Lib.hid c5
        clear c5
        cases hsm : sameB a2 a1 with
        | true =>
          rw [hsm] at C5
          clear c6 c7 c8 c11 hoX hoS hsm
          go_wp2_with fail
          refine (C5.out _).mono ?_
          rintro e u5 ⟨rfl, hb5⟩
          have HB5 := Lib.hid (below_then HB4.out hb5)
          clear hb5
          go_wp2_with fail
          refine (ex9_any _).mono ?_
          rintro e u6 ⟨rfl, hb6⟩
          go_wp2_with fail
          go_ret
          exact ⟨rfl, below_then HB5.out hb6⟩
        | false =>
          rw [hsm] at C5
          rw [hoX hsm] at c7
          rw [hoS hsm] at c8
          unfold Vals at c6 c7 c8
          generalize fdAll z0 a2 = V at *
          have C6 := Lib.hid c6
          have C7 := Lib.hid c7
          have C8 := Lib.hid c8
          have C11 := Lib.hid c11
          clear c6 c7 c8 c11 hoX hoS hsm hVl
          go_wp2_with fail
          refine (C5.out _).mono ?_
          rintro e u5 ⟨rfl, hb5⟩
          have HB5 := Lib.hid (below_then HB4.out hb5)
          have HX5 := Lib.hid (HX4.out.below hb5)
          have HS5 := Lib.hid (HS4.out.below hb5)
          have HO5 := Lib.hid (zero_still hb5 HO4.out)
          clear hb5 q0 q1 HB4 HX4 HS4 HO4 hlS hlX hw1
          go_wp2_with fail
          refine (C6.out _ HB5.out).mono ?_
          rintro e u6 ⟨A6, d6, rfl, hv6, _, hb6⟩
          have HV6 := Lib.hid hv6
          have HB6 := Lib.hid (below_then HB5.out hb6)
          have HX6 := Lib.hid (HX5.out.below hb6)
          have HS6 := Lib.hid (HS5.out.below hb6)
          have HO6 := Lib.hid (zero_still hb6 HO5.out)
          clear hb6 hv6 HB5 HX5 HS5 HO5
          go_wp2_with fail
          refine (C7.out _ _ _ HX6.out).mono ?_
          rintro e u7 ⟨A7, d7, rfl, hv7, _, hb7⟩
          have HW7 := Lib.hid hv7
          have HV7 := Lib.hid (HV6.out.below hb7)
          have HB7 := Lib.hid (below_then HB6.out hb7)
          have HX7 := Lib.hid (HX6.out.below hb7)
          have HS7 := Lib.hid (HS6.out.below hb7)
          have HO7 := Lib.hid (zero_still hb7 HO6.out)
          clear hb7 hv7 HV6 HB6 HX6 HS6 HO6
          go_wp2_with fail
          refine (C11.out _ _ _ _ _ HW7.out HV7.out).mono ?_
          rintro e u8 ⟨rfl, hb8⟩
          have HV8 := Lib.hid (HV7.out.below hb8)
          have HB8 := Lib.hid (below_then HB7.out hb8)
          have HX8 := Lib.hid (HX7.out.below hb8)
          have HS8 := Lib.hid (HS7.out.below hb8)
          have HO8 := Lib.hid (zero_still hb8 HO7.out)
          clear hb8 HV7 HW7 HB7 HX7 HS7 HO7
          go_wp2_with fail
          refine (C8.out _ _ _ HS8.out).mono ?_
          rintro e u9 ⟨A9, d9, rfl, hv9, _, hb9⟩
          have HW9 := Lib.hid hv9
          have HV9 := Lib.hid (HV8.out.below hb9)
          have HB9 := Lib.hid (below_then HB8.out hb9)
          have HX9 := Lib.hid (HX8.out.below hb9)
          have HS9 := Lib.hid (HS8.out.below hb9)
          have HO9 := Lib.hid (zero_still hb9 HO8.out)
          clear hb9 hv9 HV8 HB8 HX8 HS8 HO8
          go_wp2_with fail
          refine (C11.out _ _ _ _ _ HW9.out HV9.out).mono ?_
          rintro e u10 ⟨rfl, hb10⟩
          have HB10 := Lib.hid (below_then HB9.out hb10)
          have HX10 := Lib.hid (HX9.out.below hb10)
          have HS10 := Lib.hid (HS9.out.below hb10)
          obtain ⟨q0, q1⟩ := zero_two (zero_still hb10 HO9.out)
          have hbn : Below u10.heap.size u10 (u10.alloc (.cells #[.string a1] 9)) := (Below.refl _ _).alloc (Nat.le_refl _) _
          have HX11 := Lib.hid (HX10.out.below hbn)
          have HS11 := Lib.hid (HS10.out.below hbn)
          have HN11 := Lib.hid (SlS.text u10 9 a1)
          have HB11 := Lib.hid (HB10.out.alloc HB10.out.size (.cells #[.string a1] 9))
          clear hb10 HW9 HV9 HB9 HX9 HS9 HO9 HX10 HS10 HB10 hbn
          go_wp2_with fail
          refine (C9.out _ _ _ _ HS11.out HN11.out).mono ?_
          rintro e u12 ⟨v12, rfl, ho12, hb12⟩
          obtain ⟨A12, d12, rfl, hx12⟩ := ho12.slf HXZ.out
          have HD12 := Lib.hid hx12
          have HX12 := Lib.hid (HX11.out.below hb12)
          have HB12 := Lib.hid (below_then HB11.out hb12)
          clear ho12 hx12 hb12 HX11 HS11 HN11 HB11 q0 q1
          go_wp2_with fail
          refine (C10.out _ _ _ _ _ HD12.out HX12.out).mono ?_
          rintro e u13 ⟨rfl, hb13⟩
          have HB13 := Lib.hid (below_then HB12.out hb13)
          clear hb13 HD12 HX12 HB12
          go_wp2_with fail
          refine (ex9_any _).mono ?_
          rintro e u14 ⟨rfl, hb14⟩
          go_wp2_with fail
          go_ret
          exact ⟨rfl, below_then HB13.out hb14⟩

set_option maxRecDepth 100000 in
theorem lifted (os : Os) (started : os.Started) (H : Type) (enc : TypeId × Value → H) :
    ReturnsInHanded {} Try.checked os 7 .any (Rows.fieldsSetsSpec.pre6 enc Try.prog Try.f7 Rows.fieldsSetsRow.domain false) (Rows.fieldsSetsSpec.post enc Try.prog Try.f7 false true false false) := by
  refine returnsInHanded_of_change (C := Try.checked) own started (by kernel_rfl) Try.func7
    (ChangeSpec.witness6 (enc := enc) (C := Try.checked) false ⟨#[], #[.slice none 0 0, .agg #[.string ByteArray.empty, .string ByteArray.empty], .string ByteArray.empty], []⟩ 8 (by kernel_rfl) (by kernel_rfl) (by kernel_rfl) (by kernel_rfl)) ?_
  intro W base args ds gs before hval0 hW hcnd _
  have hval : ∀ (j : Nat) t v, Try.f7.params[j]? = some t → args[j]? = some v → Value.okWide Try.prog W .any base t v := hval0
  have hW' := hW
  obtain ⟨p, q, hA0, hV, rfl, hfz, hnd⟩ := hW
  have hA : DataW.TrodAll enc Try.prog W 0 (fun _ => true) true Try.f7.params.toList args.toList ds p := hA0
  rw [Try.params7] at hA hval
  obtain ⟨v0, vs0, d0, ds0, p0, q0, hargs, rfl, rfl, h0, r0⟩ := trodAll_cons hA
  obtain ⟨v1, vs1, d1, ds1, p1, q1, rfl, rfl, rfl, h1, r1⟩ := trodAll_cons r0
  obtain ⟨v2, vs2, d2, ds2, p2, q2, rfl, rfl, rfl, h2, r2⟩ := trodAll_cons r1
  obtain ⟨rfl, rfl, rfl⟩ := trodAll_nil r2
  obtain rfl : args = #[v0, v1, v2] := by cases args; simp_all
  obtain ⟨rfl, rfl⟩ := trodVars_none hV
  obtain ⟨a0, len0, cap0, rfl⟩ := okWide_slice Try.underlying22 (hval 0 22 v0 rfl rfl)
  have k0 := h0
  have lt0 : ∀ x ∈ p0, x.block < W.heap.size := by obtain ⟨m, hm⟩ := k0; exact DataW.trod_lt m _ _ _ hm
  obtain ⟨z0, w0⟩ := SlF.of_trod Try.underlying22 Try.underlying26 (by kernel_rfl) rfl rfl (by kernel_rfl) (by kernel_rfl) Try.underlying9 Try.underlying9 h0
  obtain ⟨f0, f1, y0, y1, m, rfl, rfl, rfl, hy0, hy1⟩ := Go.Joins.open_agg2 Try.underlying26 (by kernel_rfl) (by kernel_rfl) (hval 1 26 v1 rfl rfl) h1
  obtain ⟨a1, e0, rfl, wa⟩ := DataW.trod_string Try.underlying9 hy0
  obtain ⟨b1, e1, rfl, wb⟩ := DataW.trod_string Try.underlying9 hy1
  simp at e0 e1
  subst e0 e1
  have w1 := And.intro wa wb
  obtain ⟨a2, rfl, rfl, rfl, w2⟩ := open_string Try.underlying9 (hval 2 9 v2 rfl rfl) h2
  clear hA0 hval0
  refine (walk a0 len0 cap0 z0 a1 b1 a2 W w0 w1 w2).mono fun e W' ⟨he, bel⟩ => ?_
  subst he
  exact ⟨_, rfl, _, _, _, [], _, [], hW', trodAll_mk1 (shut_bool Try.underlying4 _), (trodAll_cons_mk (Below.trod laidOut (by kernel_rfl) (of_decide_eq_true (by kernel_rfl)) k0 bel lt0) (trodAll_cons_mk (Go.Joins.shut_agg2 Try.underlying26 (by kernel_rfl) (by kernel_rfl) (Go.Joins.field_of_Trod (shut_string Try.underlying9 w1.1) rfl) (Go.Joins.field_of_Trod (shut_string Try.underlying9 w1.2) rfl)) (trodAll_cons_mk (shut_string Try.underlying9 w2) trodAll_mk0))), rfl, bel.frame _, fun h => by cases h⟩

theorem over : Rows.fieldsSetsRow.holds Try.pinned (OpenSpec.ofChange Rows.fieldsSetsSpec) :=
  OpenClaim.holds_of_wide 7 Try.f7 rfl rfl rfl rfl rfl rfl rfl ⟨rfl, rfl, rfl, rfl, rfl⟩ rfl rfl rfl rfl rfl (by kernel_rfl) Try.func7 (by kernel_rfl)
    (of_decide_eq_true (by kernel_rfl)) (by unfold Func.isWrapper; first | (rw [if_pos (by decide +kernel)]; kernel_rfl) | (rw [if_neg (by decide +kernel)]; exact ⟨rfl, rfl⟩))
    (fun os started H enc _ => lifted os started H enc)

theorem proved : Rows.FieldsSetsSaid := over
#print axioms proved
end Go.Proofs.Yteiihnniodkjbaa.fieldsSets
