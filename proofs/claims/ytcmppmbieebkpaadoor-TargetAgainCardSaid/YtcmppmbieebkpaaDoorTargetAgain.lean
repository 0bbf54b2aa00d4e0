/-
  The law TargetAgain returns true for every three texts and leaves what it was given as it was. No condition.
-/
import Derived.Test.YtcmppmbieebkpaaDoorRows
import Derived.WalkKit
import Derived.ProofKit
import Derived.OpenShut
import Derived.ShutString
import Derived.Test.YtcmppmbieebkpaaDoorTarX
import Derived.Test.YtcmppmbieebkpaaDoorTgtL
import Derived.Below
import Derived.ChangeOld
import Derived.Test.YtcmppmbieebkpaaDoorCards
import Derived.Test.YtcmppmbieebkpaaDoorTie
import Derived.LaidMore
import Derived.Lib.LaidTab
import Derived.Stop.Joined
import Derived.Lay
namespace Go.Proofs.YtcmppmbieebkpaaDoor.targetAgain
open Go.ChangeShapes Go.WideShapes Go.ChangeAt Go.RowKit
open Go.ChangeMaps (open_string shut_string)
set_option linter.unusedVariables false      -- a walk need not use every 'w<i>' (that an integer argument fits its kind)

theorem own : ownKnob Tryd.prog.godebug = none := by kernel_rfl

set_option maxHeartbeats 8000000 in
set_option maxRecDepth 100000 in
theorem walk (a0 : ByteArray) (a1 : ByteArray) (a2 : ByteArray) (w0 : a0.size ≤ maxLen) (w1 : a1.size ≤ maxLen) (w2 : a2.size ≤ maxLen) (w : World) (hL : laidMetH Tryd.prog Rows.targetAgainRow.laid w) :
    Calls Tryd.prog 5 #[.string a0, .string a1, .string a2] w fun e w' => e = .returned (.bool true) ∧ Below w.heap.size w w' := by
  have HT := Lib.hid (powTabs hL)
  clear hL
  by_cases k0 : (1000 : Int) < (a0.size : Int)
  · go_enter Tryd.func5, Tryd.ntmps5
    go_wp2_with fail
    refine (ex_any _ (pow_kept HT.out (by first | with_reducible exact hb | with_reducible exact hb2 | exact hb.alloc hb.size _ | with_reducible exact hb0 | exact Below.refl _ _ | exact (Below.refl _ _).alloc (Nat.le_refl _) _))).mono ?_
    rintro e v2 ⟨rfl, hb2⟩
    go_wp2_with fail
    go_ret
    exact ⟨rfl, hb2⟩
  by_cases k1 : (1000 : Int) < (a1.size : Int)
  · go_enter Tryd.func5, Tryd.ntmps5
    go_wp2_with fail
    refine (ex_any _ (pow_kept HT.out (by first | with_reducible exact hb | with_reducible exact hb2 | exact hb.alloc hb.size _ | with_reducible exact hb0 | exact Below.refl _ _ | exact (Below.refl _ _).alloc (Nat.le_refl _) _))).mono ?_
    rintro e v2 ⟨rfl, hb2⟩
    go_wp2_with fail
    go_ret
    exact ⟨rfl, hb2⟩
  by_cases k2 : (1000 : Int) < (a2.size : Int)
  · go_enter Tryd.func5, Tryd.ntmps5
    go_wp2_with fail
    refine (ex_any _ (pow_kept HT.out (by first | with_reducible exact hb | with_reducible exact hb2 | exact hb.alloc hb.size _ | with_reducible exact hb0 | exact Below.refl _ _ | exact (Below.refl _ _).alloc (Nat.le_refl _) _))).mono ?_
    rintro e v2 ⟨rfl, hb2⟩
    go_wp2_with fail
    go_ret
    exact ⟨rfl, hb2⟩
  have c1 := fun W => parse8_any a0 a1 W (by omega) (by omega)
  rcases par_good a0 a1 with ⟨hE, g⟩ | ⟨hE, g⟩
  · obtain ⟨u, hu⟩ : ∃ u, u = (parR a0 a1).1 := ⟨_, rfl⟩
    rw [← hu] at g
    have hT := par_text g a2
    have hP := par_path g
    have hg : u.1.length ≤ 253 ∧ u.2.2.length ≤ 8192 ∧ 1 ≤ u.2.1 ∧ u.2.1 ≤ 65535 := ⟨g.auth.l1, g.len, g.auth.p0, g.auth.p1⟩
    have hp := plain_port hg.2.2.1 hg.2.2.2
    have hL : (textL u).length ≤ 9000 := by
      have h5 := hp.2.2.2.1
      unfold textL
      split <;> simp [sch8] <;> omega
    have hs1 : (mkS u.1).size ≤ 900000 := by rw [mkS_size]; omega
    have hs2 : (mkS u.2.2).size ≤ 900000 := by rw [mkS_size]; omega
    have hsT : (mkS (textL u)).size ≤ 900000 := by rw [mkS_size]; omega
    have hN : parN8 a0 a1 = 0 := hE
    have hu3 : ((mkS u.1).data.toList, u.2.1, (mkS u.2.2).data.toList) = u := by simp [mkS]
    have eT : textS (mkS u.1) u.2.1 (mkS u.2.2) = mkS (textL u) := by unfold textS; rw [hu3]
    have c2 := fun W (hb : Below w.heap.size w W) => text8_any (mkS u.1) u.2.1 (mkS u.2.2) (by omega) (by omega) (by omega) W (pow_kept HT.out hb)
    have c3 := fun W => parse8_any (mkS (textL u)) a2 W hsT (by omega)
    have c4 := fun W (hb : Below w.heap.size w W) => resolve8_any (mkS u.1) u.2.1 (mkS u.2.2) (mkS u.2.2) (by omega) hs1 hs2 W (pow_kept HT.out hb)
    have c5 := fun W (hb : Below w.heap.size w W) => key8_any (mkS u.1) u.2.1 (mkS u.2.2) (by omega) (by omega) (by omega) W (pow_kept HT.out hb)
    have e3 : parV (mkS (textL u)) a2 = uriV (mkS u.1) u.2.1 (mkS u.2.2) ∧ parN8 (mkS (textL u)) a2 = 0 := by
      unfold parV parN8; rw [hT]; exact ⟨rfl, rfl⟩
    have e4 : resV (mkS u.1) u.2.1 (mkS u.2.2) = uriV (mkS u.1) u.2.1 (mkS u.2.2) ∧ resB (mkS u.1) u.2.1 (mkS u.2.2) = true := by
      have : parR (mkS u.2.2) (hostS (mkS u.1) u.2.1) = (u, 0) := by
        have e : hostS (mkS u.1) u.2.1 = mkS (u.1 ++ 58 :: plainL u.2.1) := by
          unfold hostS
          refine mkS_eq ?_
          rw [append_list, append_list]; simp [mkS]
        rw [e]; exact hP
      unfold resV resB parV parN8; rw [this]; exact ⟨rfl, rfl⟩
    rw [e3.1, e3.2] at c3
    rw [e4.1, e4.2] at c4
    rw [eT] at c2
    unfold parV at c1
    rw [← hu, hN] at c1
    unfold uriV at *
    have hq : 1 ≤ u.2.1 ∧ u.2.1 ≤ 65535 := hg.2.2
    generalize mkS (textL u) = T at *
    generalize keyS (mkS u.1) u.2.1 (mkS u.2.2) = K at *
    generalize keyN (mkS u.1) u.2.1 (mkS u.2.2) = KE at *
    generalize mkS u.1 = x1 at *
    generalize u.2.1 = q1 at *
    generalize mkS u.2.2 = y1 at *
    have C1 := Lib.hid c1
    have C2 := Lib.hid c2
    have C3 := Lib.hid c3
    have C4 := Lib.hid c4
    have C5 := Lib.hid c5
    clear c1 c2 c3 c4 c5 hu g hT hP hg hp hL hs1 hs2 hsT hN hE hu3 eT e3 e4
    obtain ⟨q0, q65⟩ := hq
    go_enter Tryd.func5, Tryd.ntmps5
    go_wp2_with fail
    refine (C1.out _).mono ?_
    rintro e v1 ⟨rfl, hb⟩
    have HA := Lib.hid (heap_alloc_new v1 (.cells #[.string x1, .int .i64 q1, .string y1] 23))
    obtain ⟨r0, r1, r2⟩ := uri_full HA.out
    go_wp2_with fail
    refine (C2.out _ (by first | with_reducible exact hb | with_reducible exact hb2 | exact hb.alloc hb.size _ | with_reducible exact hb0 | exact Below.refl _ _ | exact (Below.refl _ _).alloc (Nat.le_refl _) _)).mono ?_
    rintro e v2 ⟨rfl, hb'⟩
    have HA := Lib.hid (alloc_zero hb')
    have hb := below_then hb (alloc_then hb')
    clear hb'
    try clear r0 r1 r2
    try clear s0 s1 s2
    try clear m0 m1 m2
    go_wp2_with fail
    refine (C3.out _).mono ?_
    rintro e v3 ⟨rfl, hb'⟩
    have HA := Lib.hid (still_zero hb' HA.out)
    have hb := below_then hb hb'
    clear hb'
    try clear r0 r1 r2
    try clear s0 s1 s2
    try clear m0 m1 m2
    obtain ⟨r0, r1, r2⟩ := uri_full ((Below.heap_alloc v3 (.cells #[.string x1, .int .i64 q1, .string y1] 23) _ (Array.getElem?_eq_some_iff.1 HA.out).1).trans HA.out)
    go_wp2_with fail
    refine (C4.out _ (by first | with_reducible exact hb | with_reducible exact hb2 | exact hb.alloc hb.size _ | with_reducible exact hb0 | exact Below.refl _ _ | exact (Below.refl _ _).alloc (Nat.le_refl _) _)).mono ?_
    rintro e v4 ⟨rfl, hb'⟩
    have HA := Lib.hid (still_zero (alloc_then hb') HA.out)
    have HB := Lib.hid (alloc_zero hb')
    have hb := below_then hb (alloc_then hb')
    clear hb'
    try clear r0 r1 r2
    try clear s0 s1 s2
    try clear m0 m1 m2
    obtain ⟨r0, r1, r2⟩ := uri_full ((Below.heap_alloc v4 (.cells #[.string x1, .int .i64 q1, .string y1] 23) _ (Array.getElem?_eq_some_iff.1 HA.out).1).trans HA.out)
    go_wp2_with fail
    refine (C5.out _ (by first | with_reducible exact hb | with_reducible exact hb2 | exact hb.alloc hb.size _ | with_reducible exact hb0 | exact Below.refl _ _ | exact (Below.refl _ _).alloc (Nat.le_refl _) _)).mono ?_
    rintro e v5 ⟨rfl, hb'⟩
    have HA := Lib.hid (still_zero (alloc_then hb') HA.out)
    have HB := Lib.hid (still_zero (alloc_then hb') HB.out)
    have HC := Lib.hid (alloc_zero hb')
    have hb := below_then hb (alloc_then hb')
    clear hb'
    try clear r0 r1 r2
    try clear s0 s1 s2
    try clear m0 m1 m2
    obtain ⟨r0, r1, r2⟩ := uri_full HB.out
    go_wp2_with fail
    refine (C5.out _ (by first | with_reducible exact hb | with_reducible exact hb2 | exact hb.alloc hb.size _ | with_reducible exact hb0 | exact Below.refl _ _ | exact (Below.refl _ _).alloc (Nat.le_refl _) _)).mono ?_
    rintro e v6 ⟨rfl, hb'⟩
    have HA := Lib.hid (still_zero hb' HA.out)
    have HB := Lib.hid (still_zero hb' HB.out)
    have HC := Lib.hid (still_zero hb' HC.out)
    have hb := below_then hb hb'
    clear hb'
    try clear r0 r1 r2
    try clear s0 s1 s2
    try clear m0 m1 m2
    obtain ⟨r0, r1, r2⟩ := uri_full HA.out
    obtain ⟨s0, s1, s2⟩ := uri_full HB.out
    obtain ⟨m0, m1, m2⟩ := uri_full HC.out
    go_wp2_with fail
    refine (ex_any _ (pow_kept HT.out (by first | with_reducible exact hb | with_reducible exact hb2 | exact hb.alloc hb.size _ | with_reducible exact hb0 | exact Below.refl _ _ | exact (Below.refl _ _).alloc (Nat.le_refl _) _))).mono ?_
    rintro e v7 ⟨rfl, hb'⟩
    have hb := below_then hb hb'
    clear hb'
    go_wp2_with fail
    go_ret
    exact ⟨rfl, hb⟩
  · have hN : parN8 a0 a1 ≠ 0 := hE
    unfold parV at c1
    rw [g] at c1
    generalize parN8 a0 a1 = E at *
    have hE' : (E == 0) = false := beq_eq_false_iff_ne.2 hN
    unfold uriV mkS at c1
    have C1 := Lib.hid c1
    clear c1 g hE
    go_enter Tryd.func5, Tryd.ntmps5
    go_wp2_with fail
    refine (C1.out _).mono ?_
    rintro e v1 ⟨rfl, hb⟩
    have HA := Lib.hid (heap_alloc_new v1 (.cells #[.string ⟨#[]⟩, .int .i64 0, .string ⟨#[]⟩] 23))
    obtain ⟨r0, r1, r2⟩ := uri_full HA.out
    go_wp2_with fail
    refine (ex_any _ (pow_kept HT.out (by first | with_reducible exact hb | with_reducible exact hb2 | exact hb.alloc hb.size _ | with_reducible exact hb0 | exact Below.refl _ _ | exact (Below.refl _ _).alloc (Nat.le_refl _) _))).mono ?_
    rintro e v7 ⟨rfl, hb'⟩
    have hb := below_then hb (alloc_then hb')
    clear hb'
    go_wp2_with fail
    go_ret
    exact ⟨rfl, hb⟩

theorem door_met (os : Os) (args : Array Value) : laidMetH Tryd.prog Rows.targetAgainRow.laid ((World.laidAll Tryd.prog os Rows.targetAgainRow.laid).forCall (fun _ _ => 0) ⟨#[], args, []⟩).memory := by
  rw [MakeChecks.laidMetH_plain _ _ _ (by kernel_rfl)]
  exact laidMet_laidAll _ (by kernel_rfl) (by kernel_rfl)

set_option maxRecDepth 100000 in
theorem lifted (os : Os) (started : os.Started) (H : Type) (enc : TypeId × Value → H) :
    ReturnsInHanded {} Tryd.checked os 5 .any (fun w args => (Rows.targetAgainSpec.pre enc Tryd.prog Tryd.f5 [] false w args ∧ laidMetH Tryd.prog Rows.targetAgainRow.laid w) ∧ sizedMet enc Tryd.prog Tryd.f5 (OpenSpec.ofChange Rows.targetAgainSpec) false w args) (Rows.targetAgainSpec.post enc Tryd.prog Tryd.f5 false true false false) := by
  refine returnsInHanded_of_change_and (C := Tryd.checked) (X := fun w _ => laidMetH Tryd.prog Rows.targetAgainRow.laid w) (fun _ _ _ hh h => h.of_heap hh) own started (by kernel_rfl) Tryd.func5
    (ChangeSpec.witness_shaped (enc := enc) (C := Tryd.checked) (os := os) (X := fun w _ => laidMetH Tryd.prog Rows.targetAgainRow.laid w) false (World.laidAll Tryd.prog os Rows.targetAgainRow.laid) #[.string ByteArray.empty, .string ByteArray.empty, .string ByteArray.empty] 8 rfl (World.shaped_of_ZipB (by kernel_rfl) (by kernel_rfl)) (by kernel_rfl) (by kernel_rfl) (by kernel_rfl) (door_met os _)) ?_
  intro W base args ds gs before hval0 hW _ _ hL _
  have hval : ∀ (j : Nat) t v, Tryd.f5.params[j]? = some t → args[j]? = some v → Value.okWide Tryd.prog W .any base t v := hval0
  have hW' := hW
  obtain ⟨p, q, hA0, hV, rfl, hfz, hnd⟩ := hW
  have hA : DataW.TrodAll enc Tryd.prog W 0 (fun _ => true) true Tryd.f5.params.toList args.toList ds p := hA0
  rw [Tryd.params5] at hA hval
  obtain ⟨v0, vs0, d0, ds0, p0, q0, hargs, rfl, rfl, h0, r0⟩ := trodAll_cons hA
  obtain ⟨v1, vs1, d1, ds1, p1, q1, rfl, rfl, rfl, h1, r1⟩ := trodAll_cons r0
  obtain ⟨v2, vs2, d2, ds2, p2, q2, rfl, rfl, rfl, h2, r2⟩ := trodAll_cons r1
  obtain ⟨rfl, rfl, rfl⟩ := trodAll_nil r2
  obtain rfl : args = #[v0, v1, v2] := by cases args; simp_all
  obtain ⟨rfl, rfl⟩ := trodVars_none hV
  obtain ⟨a0, rfl, rfl, rfl, w0⟩ := open_string Tryd.underlying9 (hval 0 9 v0 rfl rfl) h0
  obtain ⟨a1, rfl, rfl, rfl, w1⟩ := open_string Tryd.underlying9 (hval 1 9 v1 rfl rfl) h1
  obtain ⟨a2, rfl, rfl, rfl, w2⟩ := open_string Tryd.underlying9 (hval 2 9 v2 rfl rfl) h2
  clear hA0 hval0
  simp only [List.append_nil] at hW'
  refine (walk a0 a1 a2 w0 w1 w2 W hL).mono fun e W' ⟨he, hg⟩ => ?_
  subst he
  exact ⟨_, rfl, _, _, _, [], [], [], hW', (trodAll_cons_mk (shut_bool Tryd.underlying4 _) trodAll_mk0), (trodAll_cons_mk (shut_string Tryd.underlying9 w0) (trodAll_cons_mk (shut_string Tryd.underlying9 w1) (trodAll_cons_mk (shut_string Tryd.underlying9 w2) trodAll_mk0))), rfl, hg.frame _, fun h => by cases h⟩

theorem over : Rows.targetAgainRow.holds Tryd.pinned (OpenSpec.ofChange Rows.targetAgainSpec) :=
  OpenClaim.holds_of_wide 5 Tryd.f5 rfl rfl rfl rfl rfl rfl rfl ⟨rfl, rfl, rfl, rfl, rfl⟩ rfl rfl rfl rfl rfl (by kernel_rfl) Tryd.func5 (by kernel_rfl)
    (of_decide_eq_true (by kernel_rfl)) (by unfold Func.isWrapper; first | (rw [if_pos (by decide +kernel)]; kernel_rfl) | (rw [if_neg (by decide +kernel)]; exact ⟨rfl, rfl⟩))
    (fun os started H enc _ => lifted os started H enc)

theorem said : Rows.TargetAgainSaid :=
  over

theorem plain (f : FuncId) (fn : Func) (hf : Tryd.pinned.checked.prog.funcNamed "depot/depotlaw08.TargetAgain" = some f) (hfn : Tryd.pinned.checked.prog.funcs[f]? = some fn) :
    false = Tryd.pinned.checked.prog.looks [] ∧ ∀ (j : Nat) t, fn.params[j]? = some t → Tryd.pinned.checked.prog.wantsStandIn t = false := by
  obtain rfl : f = 5 := Option.some.inj ((show Tryd.prog.funcNamed "depot/depotlaw08.TargetAgain" = some 5 by kernel_rfl).symm.trans hf) |>.symm
  obtain rfl : fn = Tryd.f5 := (Option.some.inj (Tryd.func5.symm.trans hfn)).symm
  refine ⟨by kernel_rfl, fun j t ht => ?_⟩
  rw [Tryd.params5] at ht
  · obtain rfl : t = 9 := by simpa using Array.mem_of_getElem? ht
    exact (show Tryd.prog.wantsStandIn 9 = false by kernel_rfl)

theorem proved : Rows.TargetAgainCardSaid :=
  Claim7.holds_tied_plain_at .later [] _ _ _ _ said (fun _ h => by cases h) (by kernel_rfl) (fun _ h => by cases h) targetAgain_row_tie rfl ⟨rfl, rfl⟩ (by kernel_rfl) rfl plain (by kernel_rfl)
#print axioms proved
end Go.Proofs.YtcmppmbieebkpaaDoor.targetAgain
