/-
  The law TargetPlain returns true for every text and leaves what it was given as it was. No condition.
-/
import Derived.Test.YtcmppmbieebkpaaDoorRows
import Derived.WalkKit
import Derived.ProofKit
import Derived.OpenShut
import Derived.ShutString
import Derived.Test.YtcmppmbieebkpaaDoorTarO
import Derived.Test.YtcmppmbieebkpaaDoorTgtL
import Derived.Below
import Derived.ChangeOld
import Derived.Test.YtcmppmbieebkpaaDoorCards
import Derived.Test.YtcmppmbieebkpaaDoorTie
import Derived.LaidMore
import Derived.Lib.LaidTab
import Derived.Stop.Joined
import Derived.Lay
namespace Go.Proofs.YtcmppmbieebkpaaDoor.targetPlain
open Go.ChangeShapes Go.WideShapes Go.ChangeAt Go.RowKit
open Go.ChangeMaps (open_string shut_string)
set_option linter.unusedVariables false      -- a walk need not use every 'w<i>' (that an integer argument fits its kind)

theorem own : ownKnob Tryd.prog.godebug = none := by kernel_rfl

set_option maxHeartbeats 8000000 in
set_option maxRecDepth 100000 in
theorem walk (a0 : ByteArray) (w0 : a0.size ≤ maxLen) (w : World) (hL : laidMetH Tryd.prog Rows.targetPlainRow.laid w) :
    Calls Tryd.prog 4 #[.string a0] w fun e w' => e = .returned (.bool true) ∧ Below w.heap.size w w' := by
  have HT := Lib.hid (powTabs hL)
  clear hL
  by_cases k0 : (1000 : Int) < (a0.size : Int)
  · go_enter Tryd.func4, Tryd.ntmps4
    go_wp2_with fail
    refine (ex_any _ (pow_kept HT.out (by first | with_reducible exact hb | with_reducible exact hb2 | exact hb.alloc hb.size _ | with_reducible exact hb0 | exact Below.refl _ _ | exact (Below.refl _ _).alloc (Nat.le_refl _) _))).mono ?_
    rintro e v2 ⟨rfl, hb2⟩
    go_wp2_with fail
    go_ret
    exact ⟨rfl, hb2⟩
  have c1 := fun W => path_any a0 W (by omega)
  rcases path_cases a0 with ⟨_, _, hs⟩ | ⟨e1, e2, hs⟩ | ⟨e1, hp, hl, ho⟩
  · omega
  · rw [e1, e2] at c1
    unfold mkS at c1
    have C1 := Lib.hid c1
    clear c1 e1 e2 hs
    go_enter Tryd.func4, Tryd.ntmps4
    go_wp2_with fail
    refine (C1.out _).mono ?_
    rintro e v1 ⟨rfl, hb⟩
    go_wp2_with fail
    refine (ex_any _ (pow_kept HT.out (by first | with_reducible exact hb | with_reducible exact hb2 | exact hb.alloc hb.size _ | with_reducible exact hb0 | exact Below.refl _ _ | exact (Below.refl _ _).alloc (Nat.le_refl _) _))).mono ?_
    rintro e v7 ⟨rfl, hb'⟩
    have hb := below_then hb hb'
    clear hb'
    go_wp2_with fail
    go_ret
    exact ⟨rfl, hb⟩
  · have c2 := fun W => path_any (mkS (pathV a0)) W (by rw [mkS_size]; omega)
    have h2 := path_stays hp hl
    rw [h2.1, h2.2] at c2
    rw [e1] at c1
    obtain ⟨n, W8⟩ := walk8 hp
    have hBs : (mkS (pathV a0)).size ≤ 8192 := by rw [mkS_size]; exact hl
    clear h2 e1 ho hp hl
    generalize mkS (pathV a0) = B at *
    have hn := W8.le
    have hpos : (0 : Int) < (B.size : Int) := by have := W8.pos; omega
    have hpos' : 0 < B.size := W8.pos
    have hne : ((B.size : Int) == 0) = false := by rw [beq_eq_false_iff_ne]; omega
    have hhd : ((B[0].toNat : Int) == 47) = true := W8.head hpos'
    have hbne : ((B[0].toNat : Int) != 47) = false := by simp [bne, hhd]
    have HW := Lib.hid W8
    have C1 := Lib.hid c1
    have C2 := Lib.hid c2
    clear c1 c2 W8
    go_enter Tryd.func4, Tryd.ntmps4
    go_wp2_with fail
    refine (C1.out _).mono ?_
    rintro e v1 ⟨rfl, hb⟩
    go_wp2_with fail
    refine (C2.out _).mono ?_
    rintro e v2 ⟨rfl, hb'⟩
    have hb := below_then hb hb'
    clear hb'
    go_wp2_with fail
    clear hhd hbne hne
    go_loop [7, 8] (fun p i => ∃ (k : Nat) (P : ByteArray), k ≤ n ∧ i = .int .i64 (k : Int) ∧ p = .string P ∧ Hid (P.data.toList = curL (B.data.toList.take k))) (fun _ i => B.size + 1 - (intOf i).toNat)
    case atStart => exact ⟨0, ⟨#[]⟩, Nat.zero_le _, rfl, rfl, rfl⟩
    case round =>
      obtain ⟨k, P, hk, rfl, rfl, hf⟩ := hrel
      have hP : P.size ≤ 8192 := by
        have h1 := cur_len (B.data.toList.take k) []
        rw [Lib.size_eq, hf.out]
        rw [List.length_take] at h1
        simp only [List.length_nil] at h1
        unfold curL
        omega
      have hkB : (k : Int) ≤ (B.size : Int) := by omega
      by_cases hE : k = B.size
      · have hn' : k = n := by omega
        obtain ⟨g1, g2⟩ := good_no (P := P) (by rw [hf.out]; exact HW.out.part k hk (.inl hn'))
        have eE : ((k : Int) == (B.size : Int)) = true := by rw [hE]; simp
        clear hf hn' hE
        go_wp2_with fail
        refine (ex_any _ (pow_kept HT.out (by first | with_reducible exact hb | with_reducible exact hb2 | exact hb.alloc hb.size _ | with_reducible exact hb0 | exact Below.refl _ _ | exact (Below.refl _ _).alloc (Nat.le_refl _) _))).mono ?_
        rintro e v7 ⟨rfl, hb'⟩
        have hb := below_then hb hb'
        clear hb'
        go_wp2_with fail
        go_ret
        exact ⟨rfl, hb⟩
      have hlt : k < B.size := by omega
      have hltI : (k : Int) < (B.size : Int) := by omega
      have eE : ((k : Int) == (B.size : Int)) = false := by rw [beq_eq_false_iff_ne]; omega
      have hx1 : (k : Int) + 1 ≤ (B.size : Int) := by omega
      have hx0 : (k : Int) ≤ (k : Int) + 1 := by omega
      by_cases hN : k = n
      · obtain ⟨g1, g2⟩ := good_no (P := P) (by rw [hf.out]; exact HW.out.part k hk (.inl hN))
        have y := HW.out.yes (by omega)
        have y1 : ((B[k].toNat : Int) == 63) = true := by subst hN; exact y.1
        have y2 : ((B[k].toNat : Int) == 47) = false := by subst hN; exact y.2
        clear hf hN hE y
        go_wp2_with fail
        refine (ex_any _ (pow_kept HT.out (by first | with_reducible exact hb | with_reducible exact hb2 | exact hb.alloc hb.size _ | with_reducible exact hb0 | exact Below.refl _ _ | exact (Below.refl _ _).alloc (Nat.le_refl _) _))).mono ?_
        rintro e v7 ⟨rfl, hb'⟩
        have hb := below_then hb hb'
        clear hb'
        go_wp2_with fail
        go_ret
        exact ⟨rfl, hb⟩
      have y1 := HW.out.no k hlt (by omega)
      have HT := Lib.hid (take_snoc8 B k hlt)
      cases h47 : ((B[k].toNat : Int) == 47) with
      | true =>
        obtain ⟨g1, g2⟩ := good_no (P := P) (by rw [hf.out]; exact HW.out.part k hk (.inr ⟨hlt, h47⟩))
        have HR : Hid (([] : List UInt8) = curL (B.data.toList.take (k + 1))) := by
          show _ = _
          rw [HT.out, curL_snoc, if_pos ((byte_eq B[k] 47).1 h47)]
        clear hf HT hE
        go_wp2_with fail
        go_round
        case rel => exact ⟨k + 1, ⟨#[]⟩, by omega, by go_num, rfl, HR⟩
        case measure => simp [intOf]; omega
      | false =>
        have HR : Hid ((P ++ B.extract k (k + 1)).data.toList = curL (B.data.toList.take (k + 1))) := by
          show _ = _
          rw [ext_one8 B P k hlt, HT.out, curL_snoc, if_neg ((byte_ne B[k] 47).1 h47), hf.out]
        clear hf HT hE
        go_wp2_with fail
        go_round
        case rel => exact ⟨k + 1, _, by omega, by go_num, rfl, HR⟩
        case measure => simp [intOf]; omega

theorem door_met (os : Os) (args : Array Value) : laidMetH Tryd.prog Rows.targetPlainRow.laid ((World.laidAll Tryd.prog os Rows.targetPlainRow.laid).forCall (fun _ _ => 0) ⟨#[], args, []⟩).memory := by
  rw [MakeChecks.laidMetH_plain _ _ _ (by kernel_rfl)]
  exact laidMet_laidAll _ (by kernel_rfl) (by kernel_rfl)

set_option maxRecDepth 100000 in
theorem lifted (os : Os) (started : os.Started) (H : Type) (enc : TypeId × Value → H) :
    ReturnsInHanded {} Tryd.checked os 4 .any (fun w args => (Rows.targetPlainSpec.pre enc Tryd.prog Tryd.f4 [] false w args ∧ laidMetH Tryd.prog Rows.targetPlainRow.laid w) ∧ sizedMet enc Tryd.prog Tryd.f4 (OpenSpec.ofChange Rows.targetPlainSpec) false w args) (Rows.targetPlainSpec.post enc Tryd.prog Tryd.f4 false true false false) := by
  refine returnsInHanded_of_change_and (C := Tryd.checked) (X := fun w _ => laidMetH Tryd.prog Rows.targetPlainRow.laid w) (fun _ _ _ hh h => h.of_heap hh) own started (by kernel_rfl) Tryd.func4
    (ChangeSpec.witness_shaped (enc := enc) (C := Tryd.checked) (os := os) (X := fun w _ => laidMetH Tryd.prog Rows.targetPlainRow.laid w) false (World.laidAll Tryd.prog os Rows.targetPlainRow.laid) #[.string ByteArray.empty] 8 rfl (World.shaped_of_ZipB (by kernel_rfl) (by kernel_rfl)) (by kernel_rfl) (by kernel_rfl) (by kernel_rfl) (door_met os _)) ?_
  intro W base args ds gs before hval0 hW _ _ hL _
  have hval : ∀ (j : Nat) t v, Tryd.f4.params[j]? = some t → args[j]? = some v → Value.okWide Tryd.prog W .any base t v := hval0
  have hW' := hW
  obtain ⟨p, q, hA0, hV, rfl, hfz, hnd⟩ := hW
  have hA : DataW.TrodAll enc Tryd.prog W 0 (fun _ => true) true Tryd.f4.params.toList args.toList ds p := hA0
  rw [Tryd.params4] at hA hval
  obtain ⟨v0, vs0, d0, ds0, p0, q0, hargs, rfl, rfl, h0, r0⟩ := trodAll_cons hA
  obtain ⟨rfl, rfl, rfl⟩ := trodAll_nil r0
  obtain rfl : args = #[v0] := by cases args; simp_all
  obtain ⟨rfl, rfl⟩ := trodVars_none hV
  obtain ⟨a0, rfl, rfl, rfl, w0⟩ := open_string Tryd.underlying9 (hval 0 9 v0 rfl rfl) h0
  clear hA0 hval0
  simp only [List.append_nil] at hW'
  refine (walk a0 w0 W hL).mono fun e W' ⟨he, hg⟩ => ?_
  subst he
  exact ⟨_, rfl, _, _, _, [], [], [], hW', (trodAll_cons_mk (shut_bool Tryd.underlying4 _) trodAll_mk0), (trodAll_cons_mk (shut_string Tryd.underlying9 w0) trodAll_mk0), rfl, hg.frame _, fun h => by cases h⟩

theorem over : Rows.targetPlainRow.holds Tryd.pinned (OpenSpec.ofChange Rows.targetPlainSpec) :=
  OpenClaim.holds_of_wide 4 Tryd.f4 rfl rfl rfl rfl rfl rfl rfl ⟨rfl, rfl, rfl, rfl, rfl⟩ rfl rfl rfl rfl rfl (by kernel_rfl) Tryd.func4 (by kernel_rfl)
    (of_decide_eq_true (by kernel_rfl)) (by unfold Func.isWrapper; first | (rw [if_pos (by decide +kernel)]; kernel_rfl) | (rw [if_neg (by decide +kernel)]; exact ⟨rfl, rfl⟩))
    (fun os started H enc _ => lifted os started H enc)

theorem said : Rows.TargetPlainSaid :=
  over

theorem plain (f : FuncId) (fn : Func) (hf : Tryd.pinned.checked.prog.funcNamed "depot/depotlaw08.TargetPlain" = some f) (hfn : Tryd.pinned.checked.prog.funcs[f]? = some fn) :
    false = Tryd.pinned.checked.prog.looks [] ∧ ∀ (j : Nat) t, fn.params[j]? = some t → Tryd.pinned.checked.prog.wantsStandIn t = false := by
  obtain rfl : f = 4 := Option.some.inj ((show Tryd.prog.funcNamed "depot/depotlaw08.TargetPlain" = some 4 by kernel_rfl).symm.trans hf) |>.symm
  obtain rfl : fn = Tryd.f4 := (Option.some.inj (Tryd.func4.symm.trans hfn)).symm
  refine ⟨by kernel_rfl, fun j t ht => ?_⟩
  rw [Tryd.params4] at ht
  · obtain rfl : t = 9 := by simpa using Array.mem_of_getElem? ht
    exact (show Tryd.prog.wantsStandIn 9 = false by kernel_rfl)

theorem proved : Rows.TargetPlainCardSaid :=
  Claim7.holds_tied_plain_at .later [] _ _ _ _ said (fun _ h => by cases h) (by kernel_rfl) (fun _ h => by cases h) targetPlain_row_tie rfl ⟨rfl, rfl⟩ (by kernel_rfl) rfl plain (by kernel_rfl)
#print axioms proved
end Go.Proofs.YtcmppmbieebkpaaDoor.targetPlain
