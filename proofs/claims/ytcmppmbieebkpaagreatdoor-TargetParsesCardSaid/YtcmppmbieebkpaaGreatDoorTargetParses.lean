/-
  The law TargetParses returns true for every three texts and leaves what it was given as it was. No condition.
-/
import Derived.Test.YtcmppmbieebkpaaGreatDoorRows
import Derived.WalkKit
import Derived.ProofKit
import Derived.OpenShut
import Derived.ShutString
import Derived.Test.YtcmppmbieebkpaaGreatDoorTarX
import Derived.Test.YtcmppmbieebkpaaGreatDoorTgtL
import Derived.Below
import Derived.ChangeOld
import Derived.Test.YtcmppmbieebkpaaGreatDoorCards
import Derived.Test.YtcmppmbieebkpaaGreatDoorTie
import Derived.LaidMore
import Derived.Lib.LaidTab
import Derived.Stop.Joined
import Derived.Lay
namespace Go.Proofs.YtcmppmbieebkpaaGreatDoor.targetParses
open Go.ChangeShapes Go.WideShapes Go.ChangeAt Go.RowKit
open Go.ChangeMaps (open_string shut_string)
set_option linter.unusedVariables false      -- a walk need not use every 'w<i>' (that an integer argument fits its kind)

theorem own : ownKnob Tryz.prog.godebug = none := by kernel_rfl

set_option maxHeartbeats 8000000 in
set_option maxRecDepth 100000 in
theorem walk (a0 : ByteArray) (a1 : ByteArray) (a2 : ByteArray) (w0 : a0.size ≤ maxLen) (w1 : a1.size ≤ maxLen) (w2 : a2.size ≤ maxLen) (w : World) (hL : laidMetH Tryz.prog Rows.targetParsesRow.laid w) :
    Calls Tryz.prog 4 #[.string a0, .string a1, .string a2] w fun e w' => e = .returned (.bool true) ∧ Below w.heap.size w w' := by
  have HT := Lib.hid (powTabs hL)
  clear hL
  by_cases k0 : (1000 : Int) < (a0.size : Int)
  · go_enter Tryz.func4, Tryz.ntmps4
    go_wp2_with fail
    refine (ex_any _ (pow_kept HT.out (by first | with_reducible exact hb | with_reducible exact hb2 | exact hb.alloc hb.size _ | with_reducible exact hb0 | exact Below.refl _ _ | exact (Below.refl _ _).alloc (Nat.le_refl _) _))).mono ?_
    rintro e v2 ⟨rfl, hb2⟩
    go_wp2_with fail
    go_ret
    exact ⟨rfl, hb2⟩
  by_cases k1 : (1000 : Int) < (a1.size : Int)
  · go_enter Tryz.func4, Tryz.ntmps4
    go_wp2_with fail
    refine (ex_any _ (pow_kept HT.out (by first | with_reducible exact hb | with_reducible exact hb2 | exact hb.alloc hb.size _ | with_reducible exact hb0 | exact Below.refl _ _ | exact (Below.refl _ _).alloc (Nat.le_refl _) _))).mono ?_
    rintro e v2 ⟨rfl, hb2⟩
    go_wp2_with fail
    go_ret
    exact ⟨rfl, hb2⟩
  by_cases k2 : (1000 : Int) < (a2.size : Int)
  · go_enter Tryz.func4, Tryz.ntmps4
    go_wp2_with fail
    refine (ex_any _ (pow_kept HT.out (by first | with_reducible exact hb | with_reducible exact hb2 | exact hb.alloc hb.size _ | with_reducible exact hb0 | exact Below.refl _ _ | exact (Below.refl _ _).alloc (Nat.le_refl _) _))).mono ?_
    rintro e v2 ⟨rfl, hb2⟩
    go_wp2_with fail
    go_ret
    exact ⟨rfl, hb2⟩
  · have c1 := fun W => parse8_any a0 a1 W (by omega) (by omega)
    have c2 := fun W => r_par a0 a1 W (by omega) (by omega)
    obtain ⟨u, hu⟩ : ∃ u, u = (parR a0 a1).1 := ⟨_, rfl⟩
    have hg : u.1.length ≤ 900000 ∧ u.2.2.length ≤ 900000 ∧ -9223372036854775808 ≤ u.2.1 ∧ u.2.1 ≤ 9223372036854775807 := by
      rw [hu]
      rcases par_good a0 a1 with ⟨_, g⟩ | ⟨_, g⟩
      · have := g.auth.l1
        have := g.len
        have := g.auth.p0
        have := g.auth.p1
        omega
      · rw [g]; simp
    have hs1 : (mkS u.1).size ≤ 900000 := by rw [mkS_size]; exact hg.1
    have hs2 : (mkS u.2.2).size ≤ 900000 := by rw [mkS_size]; exact hg.2.1
    unfold parV at c1 c2
    rw [← hu] at c1 c2
    have c3 := fun W (hb : Below w.heap.size w W) => resolve8_any (mkS u.1) u.2.1 (mkS u.2.2) a2 ⟨hg.2.2.1, hg.2.2.2⟩ hs1 (by omega) W (pow_kept HT.out hb)
    have c4 := fun W => r_res8 (mkS u.1) u.2.1 (mkS u.2.2) a2 ⟨hg.2.2.1, hg.2.2.2⟩ hs1 (by omega) W
    have c5 := fun W (hb : Below w.heap.size w W) => key8_any (mkS u.1) u.2.1 (mkS u.2.2) ⟨hg.2.2.1, hg.2.2.2⟩ (by omega) (by omega) W (pow_kept HT.out hb)
    have c6 := fun W => r_key8 (mkS u.1) u.2.1 (mkS u.2.2) ⟨hg.2.2.1, hg.2.2.2⟩ (by omega) (by omega) W
    have c7 := fun W (hb : Below w.heap.size w W) => text8_any (mkS u.1) u.2.1 (mkS u.2.2) ⟨hg.2.2.1, hg.2.2.2⟩ (by omega) (by omega) W (pow_kept HT.out hb)
    have c8 := fun W => r_text8 (mkS u.1) u.2.1 (mkS u.2.2) ⟨hg.2.2.1, hg.2.2.2⟩ (by omega) (by omega) W
    obtain ⟨x2, q2, y2, hr⟩ : ∃ x q y, resV (mkS u.1) u.2.1 a2 = .agg #[.string x, .int .i64 q, .string y] := ⟨_, _, _, rfl⟩
    rw [hr] at c3 c4
    unfold uriV at *
    generalize textS (mkS u.1) u.2.1 (mkS u.2.2) = T at *
    generalize keyS (mkS u.1) u.2.1 (mkS u.2.2) = K at *
    generalize keyN (mkS u.1) u.2.1 (mkS u.2.2) = KE at *
    generalize resB (mkS u.1) u.2.1 a2 = R at *
    generalize parN8 a0 a1 = E at *
    generalize mkS u.1 = x1 at *
    generalize u.2.1 = q1 at *
    generalize mkS u.2.2 = y1 at *
    have C1 := Lib.hid c1
    have C2 := Lib.hid c2
    have C3 := Lib.hid c3
    have C4 := Lib.hid c4
    have C5 := Lib.hid c5
    have C6 := Lib.hid c6
    have C7 := Lib.hid c7
    have C8 := Lib.hid c8
    clear c1 c2 c3 c4 c5 c6 c7 c8 hg hu hr hs1 hs2
    go_enter Tryz.func4, Tryz.ntmps4
    go_wp2_with fail
    refine (C1.out _).mono ?_
    rintro e v1 ⟨rfl, hb⟩
    go_wp2_with fail
    refine (C2.out _).mono ?_
    rintro e v2 ⟨rfl, hb'⟩
    have HA := Lib.hid (alloc_zero hb')
    have hb := below_then hb (alloc_then hb')
    clear hb'
    try clear r0 r1 r2
    try clear s0 s1 s2
    try clear m0 m1 m2
    try clear n0 n1 n2
    obtain ⟨r0, r1, r2⟩ := uri_full ((Below.heap_alloc v2 (.cells #[.string x1, .int .i64 q1, .string y1] 34) _ (Array.getElem?_eq_some_iff.1 HA.out).1).trans HA.out)
    go_wp2_with fail
    refine (C3.out _ (by first | with_reducible exact hb | with_reducible exact hb2 | exact hb.alloc hb.size _ | with_reducible exact hb0 | exact Below.refl _ _ | exact (Below.refl _ _).alloc (Nat.le_refl _) _)).mono ?_
    rintro e v3 ⟨rfl, hb'⟩
    have HA := Lib.hid (still_zero (alloc_then hb') HA.out)
    have HB := Lib.hid (alloc_zero hb')
    have hb := below_then hb (alloc_then hb')
    clear hb'
    try clear r0 r1 r2
    try clear s0 s1 s2
    try clear m0 m1 m2
    try clear n0 n1 n2
    obtain ⟨r0, r1, r2⟩ := uri_full ((Below.heap_alloc v3 (.cells #[.string x2, .int .i64 q2, .string y2] 34) _ (Array.getElem?_eq_some_iff.1 HB.out).1).trans HB.out)
    go_wp2_with fail
    refine (C4.out _).mono ?_
    rintro e v4 ⟨rfl, hb'⟩
    have HA := Lib.hid (still_zero (alloc_then hb') HA.out)
    have HB := Lib.hid (still_zero (alloc_then hb') HB.out)
    have HC := Lib.hid (alloc_zero hb')
    have hb := below_then hb (alloc_then hb')
    clear hb'
    try clear r0 r1 r2
    try clear s0 s1 s2
    try clear m0 m1 m2
    try clear n0 n1 n2
    obtain ⟨r0, r1, r2⟩ := uri_full ((Below.heap_alloc v4 (.cells #[.string x2, .int .i64 q2, .string y2] 34) _ (Array.getElem?_eq_some_iff.1 HA.out).1).trans HA.out)
    go_wp2_with fail
    refine (C5.out _ (by first | with_reducible exact hb | with_reducible exact hb2 | exact hb.alloc hb.size _ | with_reducible exact hb0 | exact Below.refl _ _ | exact (Below.refl _ _).alloc (Nat.le_refl _) _)).mono ?_
    rintro e v5 ⟨rfl, hb'⟩
    have HA := Lib.hid (still_zero (alloc_then hb') HA.out)
    have HB := Lib.hid (still_zero (alloc_then hb') HB.out)
    have HC := Lib.hid (still_zero (alloc_then hb') HC.out)
    have HD := Lib.hid (alloc_zero hb')
    have hb := below_then hb (alloc_then hb')
    clear hb'
    try clear r0 r1 r2
    try clear s0 s1 s2
    try clear m0 m1 m2
    try clear n0 n1 n2
    obtain ⟨r0, r1, r2⟩ := uri_full HB.out
    go_wp2_with fail
    refine (C6.out _).mono ?_
    rintro e v6 ⟨rfl, hb'⟩
    have HA := Lib.hid (still_zero hb' HA.out)
    have HB := Lib.hid (still_zero hb' HB.out)
    have HC := Lib.hid (still_zero hb' HC.out)
    have HD := Lib.hid (still_zero hb' HD.out)
    have hb := below_then hb hb'
    clear hb'
    try clear r0 r1 r2
    try clear s0 s1 s2
    try clear m0 m1 m2
    try clear n0 n1 n2
    obtain ⟨r0, r1, r2⟩ := uri_full HA.out
    obtain ⟨s0, s1, s2⟩ := uri_full HB.out
    obtain ⟨m0, m1, m2⟩ := uri_full HC.out
    obtain ⟨n0, n1, n2⟩ := uri_full HD.out
    go_wp2_with fail
    have hb := hb.drew
    have e6 : v6.drew.heap = v6.heap := rfl
    have HA := Lib.hid (Eq.trans (congrArg (fun A : Array Obj => A[_]?) e6) HA.out)
    have HB := Lib.hid (Eq.trans (congrArg (fun A : Array Obj => A[_]?) e6) HB.out)
    have HC := Lib.hid (Eq.trans (congrArg (fun A : Array Obj => A[_]?) e6) HC.out)
    have HD := Lib.hid (Eq.trans (congrArg (fun A : Array Obj => A[_]?) e6) HD.out)
    clear e6
    go_region_held3 (fun W => W.cell? ⟨v1.heap.size, 0, none⟩ = some (.string x1) ∧ W.cell? ⟨v1.heap.size, 1, none⟩ = some (.int .i64 q1) ∧ W.cell? ⟨v1.heap.size, 2, none⟩ = some (.string y1) ∧ W.cell? ⟨v2.heap.size, 0, none⟩ = some (.string x1) ∧ W.cell? ⟨v2.heap.size, 1, none⟩ = some (.int .i64 q1) ∧ W.cell? ⟨v2.heap.size, 2, none⟩ = some (.string y1) ∧ W.cell? ⟨v3.heap.size, 0, none⟩ = some (.string x2) ∧ W.cell? ⟨v3.heap.size, 1, none⟩ = some (.int .i64 q2) ∧ W.cell? ⟨v3.heap.size, 2, none⟩ = some (.string y2) ∧ W.cell? ⟨v4.heap.size, 0, none⟩ = some (.string x2) ∧ W.cell? ⟨v4.heap.size, 1, none⟩ = some (.int .i64 q2) ∧ W.cell? ⟨v4.heap.size, 2, none⟩ = some (.string y2)) (exact ⟨(uri_full HA.out).1, (uri_full HA.out).2.1, (uri_full HA.out).2.2, (uri_full HB.out).1, (uri_full HB.out).2.1, (uri_full HB.out).2.2, (uri_full HC.out).1, (uri_full HC.out).2.1, (uri_full HC.out).2.2, (uri_full HD.out).1, (uri_full HD.out).2.1, (uri_full HD.out).2.2⟩) (first
      | (go_at_call 16; refine (C7.out _ (by first | with_reducible exact hb | with_reducible exact hb2 | exact hb.alloc hb.size _ | with_reducible exact hb0 | exact Below.refl _ _ | exact (Below.refl _ _).alloc (Nat.le_refl _) _)).mono ?_; rintro e v7 ⟨rfl, hb'⟩; have HA := Lib.hid (still_zero hb' HA.out); have HB := Lib.hid (still_zero hb' HB.out); have HC := Lib.hid (still_zero hb' HC.out); have HD := Lib.hid (still_zero hb' HD.out); have hb := below_then hb hb'; clear hb')
      | (go_at_call 17; refine (C8.out _).mono ?_; rintro e v8 ⟨rfl, hb'⟩; have HA := Lib.hid (still_zero hb' HA.out); have HB := Lib.hid (still_zero hb' HB.out); have HC := Lib.hid (still_zero hb' HC.out); have HD := Lib.hid (still_zero hb' HD.out); have hb := below_then hb hb'; clear hb')
      | (go_at_call 5; refine (ex_any _ (pow_kept HT.out (by first | with_reducible exact hb | with_reducible exact hb2 | exact hb.alloc hb.size _ | with_reducible exact hb0 | exact Below.refl _ _ | exact (Below.refl _ _).alloc (Nat.le_refl _) _))).mono ?_; rintro e v9 ⟨rfl, hb'⟩; have HA := Lib.hid (still_zero hb' HA.out); have HB := Lib.hid (still_zero hb' HB.out); have HC := Lib.hid (still_zero hb' HC.out); have HD := Lib.hid (still_zero hb' HD.out); have hb := below_then hb hb'; clear hb'))
    go_wp2_with fail
    go_ret
    exact ⟨rfl, hb⟩

theorem door_met (os : Os) (args : Array Value) : laidMetH Tryz.prog Rows.targetParsesRow.laid ((World.laidAll Tryz.prog os Rows.targetParsesRow.laid).forCall (fun _ _ => 0) ⟨#[], args, []⟩).memory := by
  rw [MakeChecks.laidMetH_plain _ _ _ (by kernel_rfl)]
  exact laidMet_laidAll _ (by kernel_rfl) (by kernel_rfl)

set_option maxRecDepth 100000 in
theorem lifted (os : Os) (started : os.Started) (H : Type) (enc : TypeId × Value → H) :
    ReturnsInHanded {} Tryz.checked os 4 .any (fun w args => (Rows.targetParsesSpec.pre enc Tryz.prog Tryz.f4 [] false w args ∧ laidMetH Tryz.prog Rows.targetParsesRow.laid w) ∧ sizedMet enc Tryz.prog Tryz.f4 (OpenSpec.ofChange Rows.targetParsesSpec) false w args) (Rows.targetParsesSpec.post enc Tryz.prog Tryz.f4 false true false false) := by
  refine returnsInHanded_of_change_and (C := Tryz.checked) (X := fun w _ => laidMetH Tryz.prog Rows.targetParsesRow.laid w) (fun _ _ _ hh h => h.of_heap hh) own started (by kernel_rfl) Tryz.func4
    (ChangeSpec.witness_shaped (enc := enc) (C := Tryz.checked) (os := os) (X := fun w _ => laidMetH Tryz.prog Rows.targetParsesRow.laid w) false (World.laidAll Tryz.prog os Rows.targetParsesRow.laid) #[.string ByteArray.empty, .string ByteArray.empty, .string ByteArray.empty] 8 rfl (World.shaped_of_ZipB (by kernel_rfl) (by kernel_rfl)) (by kernel_rfl) (by kernel_rfl) (by kernel_rfl) (door_met os _)) ?_
  intro W base args ds gs before hval0 hW _ _ hL _
  have hval : ∀ (j : Nat) t v, Tryz.f4.params[j]? = some t → args[j]? = some v → Value.okWide Tryz.prog W .any base t v := hval0
  have hW' := hW
  obtain ⟨p, q, hA0, hV, rfl, hfz, hnd⟩ := hW
  have hA : DataW.TrodAll enc Tryz.prog W 0 (fun _ => true) true Tryz.f4.params.toList args.toList ds p := hA0
  rw [Tryz.params4] at hA hval
  obtain ⟨v0, vs0, d0, ds0, p0, q0, hargs, rfl, rfl, h0, r0⟩ := trodAll_cons hA
  obtain ⟨v1, vs1, d1, ds1, p1, q1, rfl, rfl, rfl, h1, r1⟩ := trodAll_cons r0
  obtain ⟨v2, vs2, d2, ds2, p2, q2, rfl, rfl, rfl, h2, r2⟩ := trodAll_cons r1
  obtain ⟨rfl, rfl, rfl⟩ := trodAll_nil r2
  obtain rfl : args = #[v0, v1, v2] := by cases args; simp_all
  obtain ⟨rfl, rfl⟩ := trodVars_none hV
  obtain ⟨a0, rfl, rfl, rfl, w0⟩ := open_string Tryz.underlying9 (hval 0 9 v0 rfl rfl) h0
  obtain ⟨a1, rfl, rfl, rfl, w1⟩ := open_string Tryz.underlying9 (hval 1 9 v1 rfl rfl) h1
  obtain ⟨a2, rfl, rfl, rfl, w2⟩ := open_string Tryz.underlying9 (hval 2 9 v2 rfl rfl) h2
  clear hA0 hval0
  simp only [List.append_nil] at hW'
  refine (walk a0 a1 a2 w0 w1 w2 W hL).mono fun e W' ⟨he, hg⟩ => ?_
  subst he
  exact ⟨_, rfl, _, _, _, [], [], [], hW', (trodAll_cons_mk (shut_bool Tryz.underlying4 _) trodAll_mk0), (trodAll_cons_mk (shut_string Tryz.underlying9 w0) (trodAll_cons_mk (shut_string Tryz.underlying9 w1) (trodAll_cons_mk (shut_string Tryz.underlying9 w2) trodAll_mk0))), rfl, hg.frame _, fun h => by cases h⟩

theorem over : Rows.targetParsesRow.holds Tryz.pinned (OpenSpec.ofChange Rows.targetParsesSpec) :=
  OpenClaim.holds_of_wide 4 Tryz.f4 rfl rfl rfl rfl rfl rfl rfl ⟨rfl, rfl, rfl, rfl, rfl⟩ rfl rfl rfl rfl rfl (by kernel_rfl) Tryz.func4 (by kernel_rfl)
    (of_decide_eq_true (by kernel_rfl)) (by unfold Func.isWrapper; first | (rw [if_pos (by decide +kernel)]; kernel_rfl) | (rw [if_neg (by decide +kernel)]; exact ⟨rfl, rfl⟩))
    (fun os started H enc _ => lifted os started H enc)

theorem said : Rows.TargetParsesSaid :=
  over

theorem plain (f : FuncId) (fn : Func) (hf : Tryz.pinned.checked.prog.funcNamed "depot/depotlaw08.TargetParses" = some f) (hfn : Tryz.pinned.checked.prog.funcs[f]? = some fn) :
    false = Tryz.pinned.checked.prog.looks [] ∧ ∀ (j : Nat) t, fn.params[j]? = some t → Tryz.pinned.checked.prog.wantsStandIn t = false := by
  obtain rfl : f = 4 := Option.some.inj ((show Tryz.prog.funcNamed "depot/depotlaw08.TargetParses" = some 4 by kernel_rfl).symm.trans hf) |>.symm
  obtain rfl : fn = Tryz.f4 := (Option.some.inj (Tryz.func4.symm.trans hfn)).symm
  refine ⟨by kernel_rfl, fun j t ht => ?_⟩
  rw [Tryz.params4] at ht
  · obtain rfl : t = 9 := by simpa using Array.mem_of_getElem? ht
    exact (show Tryz.prog.wantsStandIn 9 = false by kernel_rfl)

theorem proved : Rows.TargetParsesCardSaid :=
  Claim7.holds_tied_plain_at .later [] _ _ _ _ said (fun _ h => by cases h) (by kernel_rfl) (fun _ h => by cases h) targetParses_row_tie rfl ⟨rfl, rfl⟩ (by kernel_rfl) rfl plain (by kernel_rfl)
#print axioms proved
end Go.Proofs.YtcmppmbieebkpaaGreatDoor.targetParses
