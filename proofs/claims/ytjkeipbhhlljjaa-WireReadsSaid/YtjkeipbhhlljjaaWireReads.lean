/-
  The law WireReads returns true for every slice of bytes and every slice of calls and leaves what it was given as it was. No condition.
-/
import Derived.Test.YtjkeipbhhlljjaaRows
import Derived.WalkKit
import Derived.ProofKit
import Derived.OpenShut
import Derived.ShutString
import Derived.ChangeOld
import Derived.Below
import Derived.Test.YtjkeipbhhlljjaaWirX
import Derived.Test.YtjkeipbhhlljjaaComW
namespace Go.Proofs.Ytjkeipbhhlljjaa.wireReads
open Go.ChangeShapes Go.WideShapes Go.ChangeAt Go.RowKit
open Go.ChangeMaps (open_string shut_string)
set_option linter.unusedVariables false

theorem own : ownKnob Try.prog.godebug = none := by kernel_rfl
theorem laidOut : laidOutB Try.prog = true := by kernel_rfl

def IsRow (k : IntKind) (w : World) (a : Option Addr) (len cap : Nat) (zs : List Int) : Prop :=
  (a = none ∧ len = 0 ∧ cap = 0 ∧ zs = []) ∨
  ∃ x, a = some x ∧ len ≤ cap ∧ cap ≤ maxLen ∧ zs.length = cap ∧ (∀ i, i < zs.length → w.cell? (x.add i) = some (.int k (zs.getD i 0))) ∧ ∀ n ∈ zs, (Lit.int k n).wf = true

set_option maxHeartbeats 8000000 in
set_option maxRecDepth 100000 in
theorem walk (a0 : Option Addr) (len0 cap0 : Nat) (z0 : List Int) (a1 : Option Addr) (len1 cap1 : Nat) (z1 : List (Int × Int)) (w : World) (w0 : IsRow .u8 w a0 len0 cap0 z0) (w1 : SlP w a1 len1 cap1 z1) :
    Calls Try.prog 4 #[.slice a0 len0 cap0, .slice a1 len1 cap1] w fun e w' => e = .returned (.bool true) ∧ Below w.heap.size w w' := by
  obtain ⟨l, hs⟩ := Sl8.of_row w0
  have hln := hs.len
  have hcm := hs.cm
  have hcap := hs.cap
  have hcm1 := w1.cm
  have hcap1 := w1.cap
  unfold maxLen at hcm hcm1
  clear w0
  by_cases k0 : (300 : Int) < (len0 : Int)
  · clear hln
    go_enter Try.func4, Try.ntmps4
    go_wp2_with fail
    refine (ex_any _).mono ?_
    rintro e w1 ⟨rfl, hb⟩
    go_wp2_with fail
    go_ret
    exact ⟨rfl, hb⟩
  · by_cases k1 : (60 : Int) < (len1 : Int)
    · clear hln
      go_enter Try.func4, Try.ntmps4
      go_wp2_with fail
      refine (ex_any _).mono ?_
      rintro e w1 ⟨rfl, hb⟩
      go_wp2_with fail
      go_ret
      exact ⟨rfl, hb⟩
    · have hl3 : l.length ≤ 300 := by omega
      have HLN := Lib.hid hln
      have HS := Lib.hid hs
      have HP := Lib.hid w1
      clear hln hs w1
      go_enter Try.func4, Try.ntmps4
      go_wp2_with fail
      refine (new_any a0 len0 cap0 l _ HS.out (by omega)).mono ?_
      rintro e w2 ⟨R, rfl, hRw, hh, hb⟩
      go_wp2_with fail
      go_loopw [6, 7] (fun at_ i wr => ∃ (j I : Nat), j ≤ len1 ∧ i = .int .i64 j ∧ I ≤ l.length ∧ at_ = .int .i64 I ∧ Hid (Hold1 wr R 63 (l.drop I)) ∧ Below w.heap.size w wr) (fun _ i _ => len1 - (intOf i).toNat)
      case atStart => exact ⟨0, 0, Nat.zero_le _, rfl, Nat.zero_le _, rfl, by rw [List.drop_zero]; exact hh, hb⟩
      case round =>
        clear hh hb
        obtain ⟨j, I, hj, rfl, hI, rfl, hh, hb⟩ := hrel
        by_cases hlt : j < len1
        · have hw := HP.out.below hb
          obtain ⟨ad, rfl, hc⟩ := hw.at_ (by omega)
          obtain ⟨⟨kd, wd⟩, hy⟩ : ∃ y, z1[j]? = some y := ⟨z1[j]'(by rw [hw.len]; exact hlt), List.getElem?_eq_getElem _⟩
          obtain ⟨hc0, hc1⟩ := hc j _ hy
          rw [← Addr.add_add, show (ad.add (j * 2)).add 1 = ⟨(ad.add (j * 2)).block, (ad.add (j * 2)).off + 1, none⟩ from Addr.add_succ' _ 0] at hc1
          obtain ⟨⟨y0, y1⟩, y2, y3⟩ := HP.out.bd _ (List.mem_of_getElem? hy)
          simp only at hc0 hc1 y0 y1 y2 y3
          have HY := Lib.hid hy
          have hhl : (l.drop I).length ≤ 300 := by rw [List.length_drop]; omega
          clear hw hc hy
          by_cases hk0 : kd = 0
          · subst hk0
            obtain ⟨TV, hTV⟩ : ∃ TV, TV = mkS (textV (l.drop I)) := ⟨_, rfl⟩
            obtain ⟨TE, hTE⟩ : ∃ TE, TE = textE (l.drop I) := ⟨_, rfl⟩
            have HTV := Lib.hid hTV
            have HTE := Lib.hid hTE
            have HKL := Lib.hid (text_len (l.drop I))
            rw [List.length_drop] at HKL
            clear hTV hTE
            · go_wp2_with fail
              refine (text_any R _ _ hh.out (by omega)).mono ?_
              rintro e w4 ⟨he, hh4, hb4⟩
              have HH4 := Lib.hid hh4
              have HB4 := Lib.hid hb4
              have hb4' := hb.trans (hb4.below hb.size hRw)
              have hs4 := HS.out.below hb4'
              clear hb4 hh4 hb4'
              rw [← HTV.out, ← HTE.out] at he
              subst he
              go_wp2_with fail
              refine (r_text a0 len0 cap0 l I _ hs4 hI (by omega)).mono ?_
              rintro e w5 ⟨he, rfl⟩
              obtain ⟨I2, hI2⟩ : ∃ I2, I2 = I + textK (l.drop I) := ⟨_, rfl⟩
              have HI2 := Lib.hid hI2
              rw [← hI2] at he
              rw [← HTV.out, ← HTE.out] at he
              subst he
              clear hI2 hs4
              have hb := hb.trans (HB4.out.below hb.size hRw)
              have hI2l : I2 ≤ l.length := by have := HI2.out; have := HKL.out; omega
              have hh5 : Hold1 w4 R 63 (l.drop I2) := by
                have := HH4.out
                rw [List.drop_drop, ← HI2.out] at this
                exact this
              obtain ⟨X, hX⟩ : ∃ X, X = l.drop I2 := ⟨_, rfl⟩
              have t9 : ((X.length : Int) != (len0 : Int) - (I2 : Int)) = false := by
                rw [hX, List.length_drop, ← HLN.out]
                simp
                omega
              rw [← hX] at hh5
              have HX := Lib.hid hX
              have HB5 := Lib.hid hb
              clear hX hb
              go_wp2_with fail
              refine (left_any R X _ hh5).mono ?_
              rintro e w6 ⟨rfl, rfl⟩
              go_wp2_with fail
              go_roundw
              case rel => exact ⟨j + 1, I2, by omega, by go_num, hI2l, by first | rfl | go_num, by rw [← HX.out]; exact hh5, HB5.out⟩
              case measure => simp [intOf]; omega
          · by_cases hk1 : kd = 1
            · subst hk1
              obtain ⟨TV, hTV⟩ : ∃ TV, TV = flagV (l.drop I) := ⟨_, rfl⟩
              obtain ⟨TE, hTE⟩ : ∃ TE, TE = flagE (l.drop I) := ⟨_, rfl⟩
              have HTV := Lib.hid hTV
              have HTE := Lib.hid hTE
              have HKL := Lib.hid (flag_len (l.drop I))
              rw [List.length_drop] at HKL
              clear hTV hTE
              go_wp2_with fail
              refine (flag_any R _ _ hh.out).mono ?_
              rintro e w4 ⟨he, hh4, hb4⟩
              have HH4 := Lib.hid hh4
              have HB4 := Lib.hid hb4
              have hb4' := hb.trans (hb4.below hb.size hRw)
              have hs4 := HS.out.below hb4'
              clear hb4 hh4 hb4'
              rw [← HTV.out, ← HTE.out] at he
              subst he
              go_wp2_with fail
              refine (r_flag a0 len0 cap0 l I _ hs4 hI (by omega)).mono ?_
              rintro e w5 ⟨he, rfl⟩
              obtain ⟨I2, hI2⟩ : ∃ I2, I2 = I + flagK (l.drop I) := ⟨_, rfl⟩
              have HI2 := Lib.hid hI2
              rw [← hI2] at he
              rw [← HTV.out, ← HTE.out] at he
              subst he
              clear hI2 hs4
              have hb := hb.trans (HB4.out.below hb.size hRw)
              have hI2l : I2 ≤ l.length := by have := HI2.out; have := HKL.out; omega
              have hh5 : Hold1 w4 R 63 (l.drop I2) := by
                have := HH4.out
                rw [List.drop_drop, ← HI2.out] at this
                exact this
              obtain ⟨X, hX⟩ : ∃ X, X = l.drop I2 := ⟨_, rfl⟩
              have t9 : ((X.length : Int) != (len0 : Int) - (I2 : Int)) = false := by
                rw [hX, List.length_drop, ← HLN.out]
                simp
                omega
              rw [← hX] at hh5
              have HX := Lib.hid hX
              have HB5 := Lib.hid hb
              clear hX hb
              go_wp2_with fail
              refine (left_any R X _ hh5).mono ?_
              rintro e w6 ⟨rfl, rfl⟩
              go_wp2_with fail
              go_roundw
              case rel => exact ⟨j + 1, I2, by omega, by go_num, hI2l, by first | rfl | go_num, by rw [← HX.out]; exact hh5, HB5.out⟩
              case measure => simp [intOf]; omega
            · have u0 : (kd == 0) = false := by simpa using hk0
              have u1 : (kd == 1) = false := by simpa using hk1
              obtain ⟨TV, hTV⟩ : ∃ TV, TV = getV (l.drop I) 0 wd := ⟨_, rfl⟩
              obtain ⟨TE, hTE⟩ : ∃ TE, TE = getE (l.drop I) 0 wd := ⟨_, rfl⟩
              have HTV := Lib.hid hTV
              have HTE := Lib.hid hTE
              have HGE := Lib.hid (And.intro (getE_drop l I wd hI) (getV_drop l I wd hI))
              clear hTV hTE
              by_cases hE : TE = 0
              · have hgl := get_len (m := l.drop I) (k := wd) (by rw [← HTE.out]; exact hE)
                rw [List.length_drop] at hgl
                have HNK := Lib.hid (show numK (l.drop I) wd = wd.toNat by unfold numK; rw [if_pos (by rw [← HTE.out]; exact hE)])
                obtain ⟨hg1, hg2, hg3⟩ := hgl
                subst hE
                go_wp2_with fail
                refine (num_any R _ wd _ hh.out y2 y3).mono ?_
                rintro e w4 ⟨he, hh4, hb4⟩
                have HH4 := Lib.hid hh4
                have HB4 := Lib.hid hb4
                have hb4' := hb.trans (hb4.below hb.size hRw)
                have hs4 := HS.out.below hb4'
                clear hb4 hh4
                rw [← HTV.out, ← HTE.out] at he
                subst he
                have hw4 := HP.out.below hb4'
                obtain ⟨ad', e', hc4⟩ := hw4.at_ (by omega)
                cases e'
                obtain ⟨hc0', hc1'⟩ := hc4 j _ HY.out
                rw [← Addr.add_add, show (ad.add (j * 2)).add 1 = ⟨(ad.add (j * 2)).block, (ad.add (j * 2)).off + 1, none⟩ from Addr.add_succ' _ 0] at hc1'
                simp only at hc0' hc1'
                clear hc4 hw4 hc0 hc1 hb4'
                go_wp2_with fail
                refine (r_get a0 len0 cap0 l I wd _ hs4 (by omega) (by omega) y2 y3).mono ?_
                rintro e w5 ⟨he, rfl⟩
                rw [HGE.out.1, HGE.out.2, ← HTV.out, ← HTE.out] at he
                subst he
                clear hs4
                have hb := hb.trans (HB4.out.below hb.size hRw)
                obtain ⟨I2, hI2⟩ : ∃ I2, I2 = I + numK (l.drop I) wd := ⟨_, rfl⟩
                have hh5 : Hold1 w4 R 63 (l.drop I2) := by
                  have := HH4.out
                  rw [List.drop_drop, ← hI2] at this
                  exact this
                obtain ⟨X, hX⟩ : ∃ X, X = l.drop I2 := ⟨_, rfl⟩
                have HIV : Hid ((I2 : Int) = (I : Int) + wd) := by show _ = _; rw [hI2, HNK.out]; omega
                have hI2l : I2 ≤ l.length := by have := HIV.out; omega
                have t9 : ((X.length : Int) != (len0 : Int) - ((I : Int) + wd)) = false := by
                  rw [hX, List.length_drop, ← HLN.out, ← HIV.out]
                  simp
                  omega
                rw [← hX] at hh5
                have HX := Lib.hid hX
                have HB5 := Lib.hid hb
                clear hX hb hI2
                go_wp2_with fail
                refine (left_any R X _ hh5).mono ?_
                rintro e w6 ⟨rfl, rfl⟩
                go_wp2_with fail
                go_roundw
                case rel => exact ⟨j + 1, I2, by omega, by go_num, hI2l, by rw [HIV.out], by rw [← HX.out]; exact hh5, HB5.out⟩
                case measure => simp [intOf]; omega
              · have hE1 : (TE == 0) = false := by simpa using hE
                have HNK := Lib.hid (show numK (l.drop I) wd = 0 by unfold numK; rw [if_neg (by rw [← HTE.out]; exact hE)])
                go_wp2_with fail
                refine (num_any R _ wd _ hh.out y2 y3).mono ?_
                rintro e w4 ⟨he, hh4, hb4⟩
                have HH4 := Lib.hid hh4
                have HB4 := Lib.hid hb4
                have hb4' := hb.trans (hb4.below hb.size hRw)
                have hs4 := HS.out.below hb4'
                clear hb4 hh4
                rw [← HTV.out, ← HTE.out] at he
                subst he
                have hw4 := HP.out.below hb4'
                obtain ⟨ad', e', hc4⟩ := hw4.at_ (by omega)
                cases e'
                obtain ⟨hc0', hc1'⟩ := hc4 j _ HY.out
                rw [← Addr.add_add, show (ad.add (j * 2)).add 1 = ⟨(ad.add (j * 2)).block, (ad.add (j * 2)).off + 1, none⟩ from Addr.add_succ' _ 0] at hc1'
                simp only at hc0' hc1'
                clear hc4 hw4 hc0 hc1 hb4'
                go_wp2_with fail
                refine (r_get a0 len0 cap0 l I wd _ hs4 (by omega) (by omega) y2 y3).mono ?_
                rintro e w5 ⟨he, rfl⟩
                rw [HGE.out.1, HGE.out.2, ← HTV.out, ← HTE.out] at he
                subst he
                clear hs4
                have hb := hb.trans (HB4.out.below hb.size hRw)
                obtain ⟨I2, hI2⟩ : ∃ I2, I2 = I + numK (l.drop I) wd := ⟨_, rfl⟩
                have hh5 : Hold1 w4 R 63 (l.drop I2) := by
                  have := HH4.out
                  rw [List.drop_drop, ← hI2] at this
                  exact this
                obtain ⟨X, hX⟩ : ∃ X, X = l.drop I2 := ⟨_, rfl⟩
                have HIV : Hid ((I2 : Int) = (I : Int)) := by show _ = _; rw [hI2, HNK.out]; omega
                have hI2l : I2 ≤ l.length := by have := HIV.out; omega
                have t9 : ((X.length : Int) != (len0 : Int) - ((I : Int))) = false := by
                  rw [hX, List.length_drop, ← HLN.out, ← HIV.out]
                  simp
                  omega
                rw [← hX] at hh5
                have HX := Lib.hid hX
                have HB5 := Lib.hid hb
                clear hX hb hI2
                go_wp2_with fail
                refine (left_any R X _ hh5).mono ?_
                rintro e w6 ⟨rfl, rfl⟩
                go_wp2_with fail
                go_roundw
                case rel => exact ⟨j + 1, I2, by omega, by go_num, hI2l, by rw [HIV.out], by rw [← HX.out]; exact hh5, HB5.out⟩
                case measure => simp [intOf]; omega
        · obtain rfl : len1 = j := by omega
          have HB := Lib.hid hb
          clear hb
          go_wp2_with fail
          refine (ex_any _).mono ?_
          rintro e w7 ⟨rfl, hb7⟩
          have HB := Lib.hid (below_then HB.out hb7)
          clear hb7
          go_wp2_with fail
          go_ret
          exact ⟨rfl, HB.out⟩

set_option maxRecDepth 100000 in
theorem lifted (os : Os) (started : os.Started) (H : Type) (enc : TypeId × Value → H) :
    ReturnsInHanded {} Try.checked os 4 .any (Rows.wireReadsSpec.pre6 enc Try.prog Try.f4 Rows.wireReadsRow.domain false) (Rows.wireReadsSpec.post enc Try.prog Try.f4 false true false false) := by
  refine returnsInHanded_of_change (C := Try.checked) own started (by kernel_rfl) Try.func4
    (ChangeSpec.witness6 (enc := enc) (C := Try.checked) false ⟨#[], #[.slice none 0 0, .slice none 0 0], []⟩ 8 (by kernel_rfl) (by kernel_rfl) (by kernel_rfl) (by kernel_rfl)) ?_
  intro W base args ds gs before hval0 hW hcnd _
  have hval : ∀ (j : Nat) t v, Try.f4.params[j]? = some t → args[j]? = some v → Value.okWide Try.prog W .any base t v := hval0
  have hW' := hW
  obtain ⟨p, q, hA0, hV, rfl, hfz, hnd⟩ := hW
  have hA : DataW.TrodAll enc Try.prog W 0 (fun _ => true) true Try.f4.params.toList args.toList ds p := hA0
  rw [Try.params4] at hA hval
  obtain ⟨v0, vs0, d0, ds0, p0, q0, hargs, rfl, rfl, h0, r0⟩ := trodAll_cons hA
  obtain ⟨v1, vs1, d1, ds1, p1, q1, rfl, rfl, rfl, h1, r1⟩ := trodAll_cons r0
  obtain ⟨rfl, rfl, rfl⟩ := trodAll_nil r1
  obtain rfl : args = #[v0, v1] := by cases args; simp_all
  obtain ⟨rfl, rfl⟩ := trodVars_none hV
  obtain ⟨a0, len0, cap0, rfl⟩ := okWide_slice Try.underlying22 (hval 0 22 v0 rfl rfl)
  have k0 := h0
  have lt0 : ∀ x ∈ p0, x.block < W.heap.size := by obtain ⟨m, hm⟩ := k0; exact DataW.trod_lt m _ _ _ hm
  obtain ⟨z0, w0⟩ : ∃ zs, IsRow .u8 W a0 len0 cap0 zs := by
    obtain ⟨fuel, hf⟩ := h0
    rcases open_ints Try.underlying22 Try.underlying5 (by kernel_rfl) hf with ⟨hcs, _⟩ | ⟨x, l, c, zs, hcs, _, hl, hm, hz, _, hcell, hwz⟩
    · simp [Value.cells] at hcs
      obtain ⟨rfl, rfl, rfl⟩ := hcs
      exact ⟨[], .inl ⟨rfl, rfl, rfl, rfl⟩⟩
    · simp [Value.cells] at hcs
      obtain ⟨rfl, rfl, rfl⟩ := hcs
      exact ⟨zs, .inr ⟨_, rfl, hl, hm, by simpa using hz, hcell, hwz⟩⟩
  obtain ⟨a1, len1, cap1, rfl⟩ := okWide_slice Try.underlying37 (hval 1 37 v1 rfl rfl)
  have k1 := h1
  have lt1 : ∀ x ∈ p1, x.block < W.heap.size := by obtain ⟨m, hm⟩ := k1; exact DataW.trod_lt m _ _ _ hm
  obtain ⟨z1, w1⟩ := SlP.of_trod Try.underlying37 Try.underlying41 (by kernel_rfl) rfl rfl (by kernel_rfl) (by kernel_rfl) Try.underlying3 Try.underlying3 h1
  clear hA0 hval0
  refine (walk a0 len0 cap0 z0 a1 len1 cap1 z1 W w0 w1).mono fun e W' ⟨he, bel⟩ => ?_
  subst he
  exact ⟨_, rfl, _, _, _, [], _, [], hW', trodAll_mk1 (shut_bool Try.underlying4 _), (trodAll_cons_mk (Below.trod laidOut (by kernel_rfl) (of_decide_eq_true (by kernel_rfl)) k0 bel lt0) (trodAll_cons_mk (Below.trod laidOut (by kernel_rfl) (of_decide_eq_true (by kernel_rfl)) k1 bel lt1) trodAll_mk0)), rfl, bel.frame _, fun h => by cases h⟩

theorem over : Rows.wireReadsRow.holds Try.pinned (OpenSpec.ofChange Rows.wireReadsSpec) :=
  OpenClaim.holds_of_wide 4 Try.f4 rfl rfl rfl rfl rfl rfl rfl ⟨rfl, rfl, rfl, rfl, rfl⟩ rfl rfl rfl rfl rfl (by kernel_rfl) Try.func4 (by kernel_rfl)
    (of_decide_eq_true (by kernel_rfl)) (by unfold Func.isWrapper; first | (rw [if_pos (by decide +kernel)]; kernel_rfl) | (rw [if_neg (by decide +kernel)]; exact ⟨rfl, rfl⟩))
    (fun os started H enc _ => lifted os started H enc)

theorem proved : Rows.WireReadsSaid := over
#print axioms proved
end Go.Proofs.Ytjkeipbhhlljjaa.wireReads
