/-
  The law WireBack returns true for every slice of integers and every text and leaves what it was given as it was. No condition.
-/
import Derived.Test.YtjkeipbhhlljjaaRows
import Derived.WalkKit
import Derived.ProofKit
import Derived.OpenShut
import Derived.ShutString
import Derived.ChangeOld
import Derived.Below
import Derived.Test.YtjkeipbhhlljjaaWirX
import Derived.Test.YtjkeipbhhlljjaaWirY
import Derived.Test.YtjkeipbhhlljjaaComV
namespace Go.Proofs.Ytjkeipbhhlljjaa.wireBack
open Go.ChangeShapes Go.WideShapes Go.ChangeAt Go.RowKit
open Go.ChangeMaps (open_string shut_string)
set_option linter.unusedVariables false

theorem own : ownKnob Try.prog.godebug = none := by kernel_rfl
theorem laidOut : laidOutB Try.prog = true := by kernel_rfl

/-- WHAT THE WALK IS TOLD OF A SLICE OF INTEGERS THAT CAME IN: it is nil; or it leads to a row of 'cap' cells, the numbers 'zs' (the first 'len' are its elements, the rest its spare room), each fitting its kind. -/
def IsRow (k : IntKind) (w : World) (a : Option Addr) (len cap : Nat) (zs : List Int) : Prop :=
  (a = none ∧ len = 0 ∧ cap = 0 ∧ zs = []) ∨
  ∃ x, a = some x ∧ len ≤ cap ∧ cap ≤ maxLen ∧ zs.length = cap ∧ (∀ i, i < zs.length → w.cell? (x.add i) = some (.int k (zs.getD i 0))) ∧ ∀ n ∈ zs, (Lit.int k n).wf = true

set_option maxHeartbeats 8000000 in
set_option maxRecDepth 100000 in
theorem walk (a0 : Option Addr) (len0 cap0 : Nat) (z0 : List Int) (a1 : ByteArray) (w : World) (w0 : IsRow .i64 w a0 len0 cap0 z0) (w1 : a1.size ≤ maxLen) :
    Calls Try.prog 5 #[.slice a0 len0 cap0, .string a1] w fun e w' => e = .returned (.bool true) ∧ Below w.heap.size w w' := by
  obtain ⟨z, hs⟩ := Sl64.of_row w0
  have hln := hs.len
  have hcm := hs.cm
  have hcap := hs.cap
  unfold maxLen at hcm w1
  have HSZ := Lib.hid (Lib.size_eq a1)
  clear w0
  by_cases k0 : (40 : Int) < (len0 : Int)
  · clear hln
    go_enter Try.func5, Try.ntmps5
    go_wp2_with fail
    refine (ex_any _).mono ?_
    rintro e w1 ⟨rfl, hb⟩
    go_wp2_with fail
    go_ret
    exact ⟨rfl, hb⟩
  · by_cases k1 : (300 : Int) < (a1.size : Int)
    · clear hln
      go_enter Try.func5, Try.ntmps5
      go_wp2_with fail
      refine (ex_any _).mono ?_
      rintro e w1 ⟨rfl, hb⟩
      go_wp2_with fail
      go_ret
      exact ⟨rfl, hb⟩
    · have HS := Lib.hid hs
      have HLN := Lib.hid hln
      have hst : a1.data.toList.length ≤ 300 := by rw [← HSZ.out]; omega
      have HST := Lib.hid hst
      clear hs hln hst
      go_enter Try.func5, Try.ntmps5
      go_wp2_with fail
      go_loopw [5, 6] (fun v i wr => ∃ (j : Nat) (A : Option Addr) (c : Nat) (X : List UInt8), j ≤ len0 ∧ i = .int .i64 j ∧ v = .slice A X.length c ∧ Hid (X = encL (z.take j) a1.data.toList) ∧ X.length ≤ j * 309 ∧ Hid (Sl8 wr A X.length c X) ∧ Hid (∀ x ∈ z.take j, 0 ≤ x ∧ x < 1099511627776) ∧ Below w.heap.size w wr) (fun _ i _ => len0 - (intOf i).toNat)
      case atStart => exact ⟨0, none, 0, [], Nat.zero_le _, rfl, rfl, rfl, by simp, Sl8.none_ _, (fun x hx => by simp at hx), Below.refl _ _⟩
      case round =>
        obtain ⟨j, A, c, X, hj, rfl, rfl, hX, hXl, hA, hin, hb⟩ := hrel
        by_cases hlt : j < len0
        · have hjz : j < z.length := by rw [HLN.out]; exact hlt
          have hw := HS.out.below hb
          obtain ⟨ad, rfl, hc⟩ := hw.at_ (by omega)
          obtain ⟨y, hy⟩ : ∃ y, y = z[j] := ⟨_, rfl⟩
          have hcell := hc j y (by rw [hy]; exact List.getElem?_eq_getElem hjz)
          obtain ⟨hy0, hy1⟩ := HS.out.bd y (by rw [hy]; exact List.getElem_mem hjz)
          have HY := Lib.hid hy
          clear hw hc hy
          by_cases hr : y < 0
          · go_wp2_with fail
            refine (ex_any _).mono ?_
            rintro e w2 ⟨rfl, hb2⟩
            have HB := Lib.hid (below_then hb hb2)
            clear hb2
            go_wp2_with fail
            go_ret
            exact ⟨rfl, HB.out⟩
          · by_cases hr2 : 1099511627776 ≤ y
            · go_wp2_with fail
              refine (ex_any _).mono ?_
              rintro e w2 ⟨rfl, hb2⟩
              have HB := Lib.hid (below_then hb hb2)
              clear hb2
              go_wp2_with fail
              go_ret
              exact ⟨rfl, HB.out⟩
            · have hP := Lib.hid (put_five X y (by omega) (by omega))
              have HP2 := Lib.hid (pt_ok (s := a1.data.toList) (by have := HST.out; omega) (X ++ leL y.toNat 5))
              go_wp2_with fail
              refine (put_any A _ c X y 5 _ hA.out (by omega) hy0 hy1 (by omega) (by omega)).mono ?_
              rintro e w2 ⟨A2, n2, c2, he, hs2, hb2⟩
              rw [hP.out.1] at he
              rw [hP.out.2] at hs2
              obtain ⟨X2, hX2⟩ : ∃ X2, X2 = X ++ leL y.toNat 5 := ⟨_, rfl⟩
              rw [← hX2] at hs2
              obtain rfl := hs2.len
              have hl2 : X2.length = X.length + 5 := by rw [hX2, List.length_append, leL_len]
              have t2 : ((X2.length : Int) != (X.length : Int) + 5) = false := by rw [hl2]; simp
              have HX2 := Lib.hid hX2
              have hl2' : X2.length ≤ j * 309 + 5 := by omega
              subst he
              clear hX2
              have hb := below_then hb hb2
              clear hb2
              have HL2 := Lib.hid hl2
              clear hl2
              go_wp2_with fail
              refine (puttext_any A2 _ c2 X2 a1 _ hs2 (by omega) (by unfold maxLen; omega)).mono ?_
              rintro e w3 ⟨A3, n3, c3, he, hs3, hb3⟩
              have HP2 := Lib.hid (pt_ok (s := a1.data.toList) (by have := HST.out; omega) X2)
              rw [HP2.out.1] at he
              rw [HP2.out.2] at hs3
              obtain ⟨X3, hX3⟩ : ∃ X3, X3 = X2 ++ (leL a1.data.toList.length 4 ++ a1.data.toList) := ⟨_, rfl⟩
              rw [← hX3] at hs3
              obtain rfl := hs3.len
              have hl3 : X3.length = X2.length + 4 + a1.size := by rw [hX3, List.length_append, List.length_append, leL_len, HSZ.out]; omega
              have t3 : ((X3.length : Int) != (X2.length : Int) + 4 + (a1.size : Int)) = false := by rw [hl3]; simp
              have HX3 := Lib.hid (show X3 = encL (z.take (j + 1)) a1.data.toList by rw [hX3, HX2.out, hX.out, HY.out, encL_succ z _ j hjz])
              have HL3 := Lib.hid hl3
              subst he
              clear hX3 hl3
              have HB := Lib.hid (below_then hb hb3)
              have H3 := Lib.hid hs3
              clear hb3 hb hs2 hs3
              have HIN := Lib.hid (show ∀ x ∈ z.take (j + 1), 0 ≤ x ∧ x < 1099511627776 from fun x hx => by
                rw [List.take_succ_eq_append_getElem hjz] at hx
                rcases List.mem_append.1 hx with h | h
                · exact hin.out x h
                · have := List.mem_singleton.1 h
                  have h2 := HY.out
                  omega)
              go_wp2_with fail
              go_roundw
              case rel => exact ⟨j + 1, A3, c3, X3, by omega, by go_num, rfl, HX3, by have := HL3.out; have := HL2.out; omega, H3, HIN, HB.out⟩
              case measure => simp [intOf]; omega
        · obtain rfl : len0 = j := by omega
          have hzt : z.take z.length = z := List.take_length
          rw [← HLN.out] at hX hin
          have HX := Lib.hid (hX.out.trans (by rw [hzt]))
          have HIN := Lib.hid (show ∀ x ∈ z, 0 ≤ x ∧ x < 1099511627776 by have := hin.out; rw [hzt] at this; exact this)
          clear hX hin hzt
          have HB := Lib.hid hb
          clear hb
          go_wp2_with fail
          refine (new_any A _ c X _ hA.out (by omega)).mono ?_
          rintro e w2 ⟨R, rfl, hR, hh, hb2⟩
          have hRw : w.heap.size ≤ R := Nat.le_trans HB.out.size hR
          have HB2 := Lib.hid (below_then HB.out hb2)
          rw [HX.out] at hh
          have HH := Lib.hid hh
          clear hh hb2 hR
          go_wp2_with fail
          go_loopw [12] (fun i wr => ∃ j : Nat, j ≤ len0 ∧ i = .int .i64 j ∧ Hid (Hold1 wr R 63 (encL (z.drop j) a1.data.toList)) ∧ Below w.heap.size w wr) (fun i _ => len0 - (intOf i).toNat)
          case atStart => exact ⟨0, Nat.zero_le _, rfl, by rw [List.drop_zero]; exact HH, HB2.out⟩
          case round =>
            clear HH HB2
            obtain ⟨j, hj, rfl, hh, hb⟩ := hrel
            by_cases hlt : j < len0
            · have hjz : j < z.length := by rw [HLN.out]; exact hlt
              have hw := HS.out.below hb
              obtain ⟨y, hy⟩ : ∃ y, y = z[j] := ⟨_, rfl⟩
              have hyz : z[j]? = some y := by rw [hy]; exact List.getElem?_eq_getElem hjz
              obtain ⟨hy0, hy1⟩ := HIN.out y (by rw [hy]; exact List.getElem_mem hjz)
              have HM := Lib.hid (show encL (z.drop j) a1.data.toList = leL y.toNat 5 ++ (leL a1.data.toList.length 4 ++ (a1.data.toList ++ encL (z.drop (j + 1)) a1.data.toList)) by rw [hy]; exact encL_drop z _ j hjz)
              have hh2 := hh.out
              rw [HM.out] at hh2
              have hlen : (encL (z.drop (j + 1)) a1.data.toList).length ≤ 40 * 309 := by
                rw [encL_len, List.length_drop]
                exact Nat.mul_le_mul (by have := HLN.out; omega) (by have := HST.out; omega)
              obtain ⟨T, hT⟩ : ∃ T, T = encL (z.drop (j + 1)) a1.data.toList := ⟨_, rfl⟩
              rw [← hT] at hh2 hlen
              have HT := Lib.hid hT
              have HN := Lib.hid (num_front y (leL a1.data.toList.length 4 ++ (a1.data.toList ++ T)) hy0 hy1)
              have HTX := Lib.hid (text_front a1.data.toList T (by have := HST.out; omega))
              have HBS := Lib.hid hb.size
              have HYZ := Lib.hid hyz
              clear hh hT hy hyz hw
              go_wp2_with fail
              refine (num_any R _ 5 _ hh2 (by omega) (by omega)).mono ?_
              rintro e w3 ⟨he, hh3, hb3⟩
              rw [HN.out.1, HN.out.2.1] at he
              rw [HN.out.2.2] at hh3
              subst he
              have hb := hb.trans (hb3.below HBS.out hRw)
              have HBS := Lib.hid hb.size
              clear hb3 hh2
              go_wp2_with fail
              refine (text_any R _ _ hh3 (by simp [leL_len]; have := HST.out; simp at this; omega)).mono ?_
              rintro e w4 ⟨he, hh4, hb4⟩
              rw [HTX.out.1, HTX.out.2.1, mkS_self] at he
              rw [HTX.out.2.2] at hh4
              subst he
              have hb := hb.trans (hb4.below HBS.out hRw)
              have hw := HS.out.below hb
              obtain ⟨ad, rfl, hc⟩ := hw.at_ (by omega)
              have hcell := hc j y HYZ.out
              have HB4 := Lib.hid hb
              have H4 := Lib.hid hh4
              clear hw hc hb hh4 hb4 hh3
              go_wp2_with fail
              go_roundw
              case rel => exact ⟨j + 1, by omega, by go_num, by rw [← HT.out]; exact H4, HB4.out⟩
              case measure => simp [intOf]; omega
            · obtain rfl : len0 = j := by omega
              have HE := Lib.hid (show encL (z.drop z.length) a1.data.toList = [] by rw [List.drop_length]; rfl)
              have hh2 := hh.out
              rw [← HLN.out, HE.out] at hh2
              have HB := Lib.hid hb
              clear hb hh
              go_wp2_with fail
              refine (left_any R _ _ hh2).mono ?_
              rintro e w3 ⟨rfl, rfl⟩
              go_wp2_with fail
              refine (ex_any _).mono ?_
              rintro e w4 ⟨rfl, hb4⟩
              have HB4 := Lib.hid (below_then HB.out hb4)
              clear hb4
              go_wp2_with fail
              go_ret
              exact ⟨rfl, HB4.out⟩

set_option maxRecDepth 100000 in
theorem lifted (os : Os) (started : os.Started) (H : Type) (enc : TypeId × Value → H) :
    ReturnsInHanded {} Try.checked os 5 .any (Rows.wireBackSpec.pre6 enc Try.prog Try.f5 Rows.wireBackRow.domain false) (Rows.wireBackSpec.post enc Try.prog Try.f5 false true false false) := by
  refine returnsInHanded_of_change (C := Try.checked) own started (by kernel_rfl) Try.func5
    (ChangeSpec.witness6 (enc := enc) (C := Try.checked) false ⟨#[], #[.slice none 0 0, .string ByteArray.empty], []⟩ 8 (by kernel_rfl) (by kernel_rfl) (by kernel_rfl) (by kernel_rfl)) ?_
  intro W base args ds gs before hval0 hW hcnd _
  have hval : ∀ (j : Nat) t v, Try.f5.params[j]? = some t → args[j]? = some v → Value.okWide Try.prog W .any base t v := hval0
  have hW' := hW
  obtain ⟨p, q, hA0, hV, rfl, hfz, hnd⟩ := hW
  have hA : DataW.TrodAll enc Try.prog W 0 (fun _ => true) true Try.f5.params.toList args.toList ds p := hA0
  rw [Try.params5] at hA hval
  obtain ⟨v0, vs0, d0, ds0, p0, q0, hargs, rfl, rfl, h0, r0⟩ := trodAll_cons hA
  obtain ⟨v1, vs1, d1, ds1, p1, q1, rfl, rfl, rfl, h1, r1⟩ := trodAll_cons r0
  obtain ⟨rfl, rfl, rfl⟩ := trodAll_nil r1
  obtain rfl : args = #[v0, v1] := by cases args; simp_all
  obtain ⟨rfl, rfl⟩ := trodVars_none hV
  obtain ⟨a0, len0, cap0, rfl⟩ := okWide_slice Try.underlying53 (hval 0 53 v0 rfl rfl)
  have k0 := h0
  have lt0 : ∀ x ∈ p0, x.block < W.heap.size := by obtain ⟨m, hm⟩ := k0; exact DataW.trod_lt m _ _ _ hm
  obtain ⟨z0, w0⟩ : ∃ zs, IsRow .i64 W a0 len0 cap0 zs := by
    obtain ⟨fuel, hf⟩ := h0
    rcases open_ints Try.underlying53 Try.underlying3 (by kernel_rfl) hf with ⟨hcs, _⟩ | ⟨x, l, c, zs, hcs, _, hl, hm, hz, _, hcell, hwz⟩
    · simp [Value.cells] at hcs
      obtain ⟨rfl, rfl, rfl⟩ := hcs
      exact ⟨[], .inl ⟨rfl, rfl, rfl, rfl⟩⟩
    · simp [Value.cells] at hcs
      obtain ⟨rfl, rfl, rfl⟩ := hcs
      exact ⟨zs, .inr ⟨_, rfl, hl, hm, by simpa using hz, hcell, hwz⟩⟩
  obtain ⟨a1, rfl, rfl, rfl, w1⟩ := open_string Try.underlying9 (hval 1 9 v1 rfl rfl) h1
  clear hA0 hval0
  refine (walk a0 len0 cap0 z0 a1 W w0 w1).mono fun e W' ⟨he, bel⟩ => ?_
  subst he
  exact ⟨_, rfl, _, _, _, [], _, [], hW', trodAll_mk1 (shut_bool Try.underlying4 _), (trodAll_cons_mk (Below.trod laidOut (by kernel_rfl) (of_decide_eq_true (by kernel_rfl)) k0 bel lt0) (trodAll_cons_mk (shut_string Try.underlying9 w1) trodAll_mk0)), rfl, bel.frame _, fun h => by cases h⟩

theorem over : Rows.wireBackRow.holds Try.pinned (OpenSpec.ofChange Rows.wireBackSpec) :=
  OpenClaim.holds_of_wide 5 Try.f5 rfl rfl rfl rfl rfl rfl rfl ⟨rfl, rfl, rfl, rfl, rfl⟩ rfl rfl rfl rfl rfl (by kernel_rfl) Try.func5 (by kernel_rfl)
    (of_decide_eq_true (by kernel_rfl)) (by unfold Func.isWrapper; first | (rw [if_pos (by decide +kernel)]; kernel_rfl) | (rw [if_neg (by decide +kernel)]; exact ⟨rfl, rfl⟩))
    (fun os started H enc _ => lifted os started H enc)

theorem proved : Rows.WireBackSaid := over
#print axioms proved
end Go.Proofs.Ytjkeipbhhlljjaa.wireBack
