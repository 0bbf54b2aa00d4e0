/-
  The law ItemsJoined returns true for every list of texts and every text and leaves what it was given as it was. No condition.
-/
import Derived.Test.YtkdafkhmpgghaaaRows
import Derived.WalkKit
import Derived.ProofKit
import Derived.OpenShut
import Derived.ShutString
import Derived.ChangeOld
import Derived.Below
import Derived.Test.YtkdafkhmpgghaaaItmX
import Derived.Test.YtkdafkhmpgghaaaItmY
import Derived.Deep.RegionHeld3
import Derived.SliceStrings
namespace Go.Proofs.Ytkdafkhmpgghaaa.itemsJoined
open Go.ChangeShapes Go.WideShapes Go.ChangeAt Go.RowKit
open Go.ChangeMaps (open_string shut_string)
set_option linter.unusedVariables false

theorem own : ownKnob Try.prog.godebug = none := by kernel_rfl
theorem laidOut : laidOutB Try.prog = true := by kernel_rfl

set_option maxHeartbeats 8000000 in
set_option maxRecDepth 100000 in
theorem walk (a0 : Option Addr) (len0 cap0 : Nat) (z0 : List (List UInt8)) (a1 : ByteArray) (w : World) (w0 : SlS w a0 len0 cap0 z0 ∧ ∀ x ∈ z0, x.length ≤ maxLen) (w1 : a1.size ≤ maxLen) :
    Calls Try.prog 6 #[.slice a0 len0 cap0, .string a1] w fun e w' => e = .returned (.bool true) ∧ Below w.heap.size w w' := by
  obtain ⟨hl0, hl1⟩ := w0
  have hlen := hl0.len
  subst hlen
  by_cases k0 : (30 : Int) < (z0.length : Int) ∨ (1000 : Int) < (a1.size : Int)
  · go_enter Try.func6, Try.ntmps6
    rcases Classical.em ((30 : Int) < (z0.length : Int)) with h1 | h1
    all_goals
      have k1 : (30 : Int) < (z0.length : Int) ∨ (1000 : Int) < (a1.size : Int) := k0
      try have h2 : (1000 : Int) < (a1.size : Int) := k0.resolve_left h1
      clear k1 k0
      go_wp2_with fail
      refine (ex_any _).mono ?_
      rintro e w2 ⟨rfl, hb2⟩
      go_wp2_with fail
      go_ret
      exact ⟨rfl, hb2⟩
  · have h1 : ¬ (30 : Int) < (z0.length : Int) := fun h => k0 (.inl h)
    have h2 : ¬ (1000 : Int) < (a1.size : Int) := fun h => k0 (.inr h)
    clear k0
    obtain ⟨M, hM⟩ : ∃ M, M = splO a1.data.toList := ⟨_, rfl⟩
    obtain ⟨E, hE⟩ : ∃ E, E = splE a1.data.toList := ⟨_, rfl⟩
    have hsp := split_any a1 w (by omega)
    have hgood : Hid ((M.length ≤ 1001 ∧ ∀ x ∈ M, Good x ∧ x.length ≤ 1000) ∧ (0 < M.length → E = 0)) := by
      show (_ ∧ _) ∧ _
      rw [hM, hE]
      unfold splO splE
      have hz := Lib.size_eq a1
      cases h : splitL a1.data.toList with
      | none => simp
      | some N =>
        have := split_good h
        exact ⟨⟨by have := this.2; simp; omega, fun x hx => ⟨(this.1 x hx).1, by have := (this.1 x hx).2; omega⟩⟩, fun _ => rfl⟩
    have hM1 : M.length ≤ 1001 := hgood.out.1.1
    rw [← hM, ← hE] at hsp
    have HSP := Lib.hid hsp
    clear hsp hM hE
    go_enter Try.func6, Try.ntmps6
    go_wp2_with fail
    refine HSP.out.mono ?_
    rintro e w2 ⟨A, c, rfl, hA, hH, hb2⟩
    go_wp2_with fail
    go_loopw [7] (fun i wr => ∃ k : Nat, k ≤ M.length ∧ i = .int .i64 k ∧ Below w2.heap.size w2 wr) (fun i _ => M.length - (intOf i).toNat)
    case atStart => exact ⟨0, Nat.zero_le _, rfl, Below.refl _ _⟩
    case round =>
      obtain ⟨k, hk, rfl, hbel⟩ := hrel
      by_cases hlt : k < M.length
      · obtain ⟨ad, rfl, hc⟩ := hA.at_ (by omega)
        have hcell := cell_kept hbel (hc k M[k] (List.getElem?_eq_getElem hlt))
        have hi1 : (k : Int) < (M.length : Int) := by omega
        have hi0 : (0 : Int) ≤ (k : Int) := by omega
        have hg := hgood.out.1.2 M[k] (List.getElem_mem hlt)
        have hE0 := hgood.out.2 (by omega)
        subst hE0
        obtain ⟨x, hx⟩ : ∃ x, x = mkS M[k] := ⟨_, rfl⟩
        have hxs : x.size ≤ maxLen := by rw [hx, mkS_size]; unfold maxLen; omega
        have hne : x.toList.isEmpty = false := by
          rw [hx, mkS_empty]
          cases hm : M[k] with
          | nil => exact absurd hm hg.1.ne
          | cons a r => rfl
        have HT : Hid (mkS (trimL x.data.toList) = x) := by
          show _ = _
          rw [hx, mkS_list, hg.1.trim]
        rw [← hx] at hcell
        clear hx hg hc
        have HC : Hid (wr.drew.cell? (ad.add k) = some (.string x)) := hcell
        go_wp2_with fail
        go_region_held3 (fun w' => w'.cell? (ad.add k) = some (.string x)) (first | go_keep | exact cell_kept hb3 HC.out)
          ((go_at_call 23; refine (trim_any x _ hxs).mono ?_; rintro e w3 ⟨he, hb3⟩; rw [HT.out] at he; subst he))
        have hb4 : Below w2.heap.size w2 w3 := hbel.drew.trans (hb3.mono hbel.size)
        clear hb3
        go_wp2
        go_roundw
        case rel => exact ⟨k + 1, by omega, by go_num, hb4⟩
        case measure => simp [intOf]; omega
      · go_wp2_with fail
        clear hk hlt
        have HW : Hid (Below w2.heap.size w2 wr) := hbel
        clear hbel
        go_loopw [8, 9] (fun v i wx => ∃ (k : Nat) (X : List (List UInt8)), k ≤ z0.length ∧ X.length = k ∧ i = .int .i64 k ∧ Hid (OwnS wx w2.heap.size 9 v X) ∧ Hid (∀ y ∈ X, Good y ∧ y.length ≤ 202) ∧ Below w2.heap.size w2 wx) (fun _ i _ => z0.length - (intOf i).toNat)
        case atStart => exact ⟨0, [], Nat.zero_le _, rfl, rfl, OwnS.nil _ _ _, (fun y hy => by cases hy), HW.out⟩
        case round =>
          clear HW
          obtain ⟨k, X, hk, hXk, rfl, ho, hX, hbel⟩ := hrel
          have hzx := hbel.size
          by_cases hlt : k < z0.length
          · obtain ⟨ad, rfl, hc⟩ := hl0.at_ (by omega)
            have hcell := cell_kept hbel (cell_kept hb2 (hc k z0[k] (List.getElem?_eq_getElem hlt)))
            have hi1 : (k : Int) < (z0.length : Int) := by omega
            have hi0 : (0 : Int) ≤ (k : Int) := by omega
            have hxs := hl1 z0[k] (List.getElem_mem hlt)
            obtain ⟨x, hx⟩ : ∃ x, x = mkS z0[k] := ⟨_, rfl⟩
            have hxl : z0[k] = x.data.toList := by rw [hx, mkS_list]
            rw [hxl, ← Lib.size_eq] at hxs
            rw [← hx] at hcell
            clear hx hxl hc
            by_cases hbig : (100 : Int) < (x.size : Int)
            · go_wp2_with fail
              refine (ex_any _).mono ?_
              rintro e w4 ⟨rfl, hb4⟩
              go_wp2_with fail
              go_ret
              exact ⟨rfl, below_then hb2 (hbel.trans (hb4.mono hbel.size))⟩
            · rcases Bool.eq_false_or_eq_true (isTok x) with ht | ht
              · have HG : Hid (Good x.data.toList ∧ x.data.toList.length ≤ 202) := ⟨good_tok (by rw [← isTok_list]; exact ht), by rw [← Lib.size_eq]; omega⟩
                have HT := Lib.hid ht
                have HS := Lib.hid (mkS_self x)
                clear ht
                go_wp2_with fail
                refine (tok_any x _ hxs).mono ?_
                rintro e w4 ⟨he, hb4⟩
                rw [HT.out] at he
                subst he
                have hcell4 := cell_kept hb4 hcell
                have hbel4 := hbel.trans (hb4.mono hbel.size)
                have ho4 := Lib.hid (ho.out.below hb4)
                have hz4 := hbel4.size
                clear hb4
                go_wp2_with (at_builtin; refine wpList_append_sls rfl _ _ _ rfl w2.heap.size 9 Try.underlying23 (by kernel_rfl) _ rfl X (ho4.out.alloc _) _ _ _ rfl [x.data.toList] (SlS.text _ _ _) (by simp; omega) (by simp; omega) w2 (hbel4.alloc hz4 _) ?_; intro v1 w5 ho5 hb5 hz5)
                go_roundw
                case rel =>
                  refine ⟨k + 1, X ++ [x.data.toList], by omega, by simp; omega, by go_num, ho5, ?_, hb5⟩
                  intro y hy
                  rcases List.mem_append.1 hy with hy | hy
                  · exact hX.out y hy
                  · rw [List.mem_singleton] at hy
                    subst hy
                    exact HG.out
                case measure => simp [intOf]; omega
              · have HT := Lib.hid ht
                obtain ⟨T, hT⟩ : ∃ T, T = quoteL x.data.toList := ⟨_, rfl⟩
                have HG : Hid (Good T ∧ T.length ≤ 202) := by
                  have := quoteL_len x.data.toList
                  rw [← Lib.size_eq] at this
                  rw [hT]
                  exact ⟨good_quote _, by omega⟩
                have HQ := Lib.hid hT
                clear ht hT
                go_wp2_with fail
                refine (tok_any x _ hxs).mono ?_
                rintro e w4 ⟨he, hb4⟩
                rw [HT.out] at he
                subst he
                have hcell4 := cell_kept hb4 hcell
                have hbel4 := hbel.trans (hb4.mono hbel.size)
                have ho4 := Lib.hid (ho.out.below hb4)
                have hz4 := hbel4.size
                clear hb4
                go_wp2_with fail
                refine (quote_any x _ (by omega)).mono ?_
                rintro e w6 ⟨he, hb6⟩
                rw [← HQ.out] at he
                subst he
                have hbel6 := hbel4.trans (hb6.mono hbel4.size)
                have ho6 := Lib.hid (ho4.out.below hb6)
                have hz6 := hbel6.size
                clear hb6
                go_wp2_with (at_builtin; refine wpList_append_sls rfl _ _ _ rfl w2.heap.size 9 Try.underlying23 (by kernel_rfl) _ rfl X (ho6.out.alloc _) _ _ _ rfl [T] (SlS.one _ _ _) (by simp; omega) (by simp; omega) w2 (hbel6.alloc hz6 _) ?_; intro v1 w5 ho5 hb5 hz5)
                go_roundw
                case rel =>
                  refine ⟨k + 1, X ++ [T], by omega, by simp; omega, by go_num, ho5, ?_, hb5⟩
                  intro y hy
                  rcases List.mem_append.1 hy with hy | hy
                  · exact hX.out y hy
                  · rw [List.mem_singleton] at hy
                    subst hy
                    exact HG.out
                case measure => simp [intOf]; omega
          · subst hXk
            obtain ⟨B, d, rfl, hB, hG⟩ := ho.out.sls
            have hXl : X.length ≤ 30 := by omega
            obtain ⟨J, hJ⟩ : ∃ J, J = mkS (Lib.join X [44, 32]) := ⟨_, rfl⟩
            have hJl := join_le X 30 202 hXl (fun y hy => (hX.out y hy).2)
            have hJs : J.size ≤ 10000 := by rw [hJ, mkS_size]; omega
            have hJo := spl_out _ _ (split_join (fun y hy => (hX.out y hy).1))
            have hJd : Lib.join X [44, 32] = J.data.toList := by rw [hJ, mkS_list]
            have hs1 := fun W => split_any J W (by omega)
            rw [← hJd, hJo.1, hJo.2] at hs1
            have hMl := join_le M 1001 1000 hM1 (fun y hy => (hgood.out.1.2 y hy).2)
            obtain ⟨K, hK⟩ : ∃ K, K = mkS (Lib.join M [44, 32]) := ⟨_, rfl⟩
            have hKs : K.size ≤ 2000000 := by rw [hK, mkS_size]; omega
            have hKo := spl_out _ _ (split_join (fun y hy => (hgood.out.1.2 y hy).1))
            have hKd : Lib.join M [44, 32] = K.data.toList := by rw [hK, mkS_list]
            have hs2 := fun W => split_any K W (by omega)
            rw [← hKd, hKo.1, hKo.2] at hs2
            have HS1 := Lib.hid hs1
            have HS2 := Lib.hid hs2
            have HJ := Lib.hid hJ
            have HK := Lib.hid hK
            have HJL : Hid ((Lib.join X [44, 32]).length ≤ 1000000000000) := by
              show _ ≤ _
              omega
            have HKL : Hid ((Lib.join M [44, 32]).length ≤ 1000000000000) := by
              show _ ≤ _
              omega
            have hb := hb2.trans (hbel.mono hb2.size)
            have hA := hA.below hbel
            have hH := hH.below hbel
            clear hs1 hs2 hJ hK hJd hKd hJo hKo hJl hMl hbel hb2 ho
            go_wp2_with fail
            refine (join_any B _ d X _ hB hG (by omega) HJL.out).mono ?_
            rintro e w4 ⟨he, hb4⟩
            rw [← HJ.out] at he
            subst he
            have hb := below_then hb hb4
            have hA := hA.below hb4
            have hH := hH.below hb4
            have hB := hB.below hb4
            clear hb4
            go_wp2_with fail
            refine (HS1.out _).mono ?_
            rintro e w5 ⟨C, f, rfl, hC, -, hb5⟩
            have hb := below_then hb hb5
            have hA := hA.below hb5
            have hH := hH.below hb5
            have hB := hB.below hb5
            clear hb5
            go_wp2_with fail
            refine (join_any A _ c M _ hA hH (by omega) HKL.out).mono ?_
            rintro e w6 ⟨he, hb6⟩
            rw [← HK.out] at he
            subst he
            have hb := below_then hb hb6
            have hA := hA.below hb6
            have hB := hB.below hb6
            have hC := hC.below hb6
            clear hb6
            go_wp2_with fail
            refine (HS2.out _).mono ?_
            rintro e w7 ⟨D, g, rfl, hD, -, hb7⟩
            have hb := below_then hb hb7
            have hA := hA.below hb7
            have hB := hB.below hb7
            have hC := hC.below hb7
            clear hb7
            go_wp2_with fail
            refine (r_sames C B _ f _ d X X _ hC hB (by omega)).mono ?_
            rintro e w8 ⟨he, hb8⟩
            rw [show (X == X) = true by simp] at he
            subst he
            have hb := below_then hb hb8
            have hA := hA.below hb8
            have hD := hD.below hb8
            clear hb8
            go_wp2_with fail
            refine (r_sames D A _ g _ c M M _ hD hA (by omega)).mono ?_
            rintro e w9 ⟨he, hb9⟩
            rw [show (M == M) = true by simp] at he
            subst he
            have hb := below_then hb hb9
            clear hb9
            go_wp2_with fail
            refine (ex_any _).mono ?_
            rintro e w10 ⟨rfl, hb10⟩
            have hb := below_then hb hb10
            clear hb10
            go_wp2_with fail
            go_ret
            exact ⟨rfl, hb⟩

set_option maxRecDepth 100000 in
theorem lifted (os : Os) (started : os.Started) (H : Type) (enc : TypeId × Value → H) :
    ReturnsInHanded {} Try.checked os 6 .any (Rows.itemsJoinedSpec.pre6 enc Try.prog Try.f6 Rows.itemsJoinedRow.domain false) (Rows.itemsJoinedSpec.post enc Try.prog Try.f6 false true false false) := by
  refine returnsInHanded_of_change (C := Try.checked) own started (by kernel_rfl) Try.func6
    (ChangeSpec.witness6 (enc := enc) (C := Try.checked) false ⟨#[], #[.slice none 0 0, .string ByteArray.empty], []⟩ 8 (by kernel_rfl) (by kernel_rfl) (by kernel_rfl) (by kernel_rfl)) ?_
  intro W base args ds gs before hval0 hW hcnd _
  have hval : ∀ (j : Nat) t v, Try.f6.params[j]? = some t → args[j]? = some v → Value.okWide Try.prog W .any base t v := hval0
  have hW' := hW
  obtain ⟨p, q, hA0, hV, rfl, hfz, hnd⟩ := hW
  have hA : DataW.TrodAll enc Try.prog W 0 (fun _ => true) true Try.f6.params.toList args.toList ds p := hA0
  rw [Try.params6] at hA hval
  obtain ⟨v0, vs0, d0, ds0, p0, q0, hargs, rfl, rfl, h0, r0⟩ := trodAll_cons hA
  obtain ⟨v1, vs1, d1, ds1, p1, q1, rfl, rfl, rfl, h1, r1⟩ := trodAll_cons r0
  obtain ⟨rfl, rfl, rfl⟩ := trodAll_nil r1
  obtain rfl : args = #[v0, v1] := by cases args; simp_all
  obtain ⟨rfl, rfl⟩ := trodVars_none hV
  obtain ⟨a0, len0, cap0, rfl⟩ := okWide_slice Try.underlying23 (hval 0 23 v0 rfl rfl)
  have k0 := h0
  have lt0 : ∀ x ∈ p0, x.block < W.heap.size := by obtain ⟨m, hm⟩ := k0; exact DataW.trod_lt m _ _ _ hm
  obtain ⟨z0, w0⟩ : ∃ L, SlS W a0 len0 cap0 L ∧ ∀ x ∈ L, x.length ≤ maxLen := by
    obtain ⟨fuel, hf⟩ := h0
    rcases open_strings Try.underlying23 Try.underlying9 (by kernel_rfl) hf with ⟨hcs, _⟩ | ⟨x, l, c, ss, hcs, _, hl, hm, hz, _, hcell, hwz⟩
    · simp [Value.cells] at hcs
      obtain ⟨rfl, rfl, rfl⟩ := hcs
      exact SlS.of_row (z := []) (.inl ⟨rfl, rfl, rfl, rfl⟩)
    · simp [Value.cells] at hcs
      obtain ⟨rfl, rfl, rfl⟩ := hcs
      exact SlS.of_row (z := ss) (.inr ⟨_, rfl, hl, hm, by simpa using hz, hcell, hwz⟩)
  obtain ⟨a1, rfl, rfl, rfl, w1⟩ := open_string Try.underlying9 (hval 1 9 v1 rfl rfl) h1
  clear hA0 hval0
  refine (walk a0 len0 cap0 z0 a1 W w0 w1).mono fun e W' ⟨he, bel⟩ => ?_
  subst he
  exact ⟨_, rfl, _, _, _, [], _, [], hW', trodAll_mk1 (shut_bool Try.underlying4 _), (trodAll_cons_mk (Below.trod laidOut (by kernel_rfl) (of_decide_eq_true (by kernel_rfl)) k0 bel lt0) (trodAll_cons_mk (shut_string Try.underlying9 w1) trodAll_mk0)), rfl, bel.frame _, fun h => by cases h⟩

theorem over : Rows.itemsJoinedRow.holds Try.pinned (OpenSpec.ofChange Rows.itemsJoinedSpec) :=
  OpenClaim.holds_of_wide 6 Try.f6 rfl rfl rfl rfl rfl rfl rfl ⟨rfl, rfl, rfl, rfl, rfl⟩ rfl rfl rfl rfl rfl (by kernel_rfl) Try.func6 (by kernel_rfl)
    (of_decide_eq_true (by kernel_rfl)) (by unfold Func.isWrapper; first | (rw [if_pos (by decide +kernel)]; kernel_rfl) | (rw [if_neg (by decide +kernel)]; exact ⟨rfl, rfl⟩))
    (fun os started H enc _ => lifted os started H enc)

theorem proved : Rows.ItemsJoinedSaid := over
#print axioms proved
end Go.Proofs.Ytkdafkhmpgghaaa.itemsJoined
