/-
  The law DateNext returns true for every number and leaves what it was given as it was, tied to the program's own text: its tables and the library's start as their initialisers lay them.
-/
import Derived.Test.YtamhipgeeidlcaaDoorRows
import Derived.WalkKit
import Derived.ProofKit
import Derived.OpenShut
import Derived.ShutString
import Derived.Test.YtamhipgeeidlcaaDoorDatX
import Derived.Test.YtamhipgeeidlcaaDoorDatLd
import Derived.Below
import Derived.ChangeOld
import Derived.Test.YtamhipgeeidlcaaDoorCards
import Derived.Test.YtamhipgeeidlcaaDoorTie
import Derived.LaidMore
import Derived.Lib.LaidTab
import Derived.Stop.Joined
import Derived.Lay
namespace Go.Proofs.YtamhipgeeidlcaaDoor.dateNext
open Go.ChangeShapes Go.WideShapes Go.ChangeAt Go.RowKit
open Go.ChangeMaps (open_string shut_string)
set_option linter.unusedVariables false      -- a walk need not use every 'w<i>' (that an integer argument fits its kind)

theorem own : ownKnob Tryd.prog.godebug = none := by kernel_rfl

set_option maxHeartbeats 8000000 in
set_option maxRecDepth 100000 in
theorem walk (a0 : Int) (w0 : (Lit.int .i64 a0).wf = true) (w : World) (hL : laidMetH Tryd.prog Rows.dateNextRow.laid w) :
    Calls Tryd.prog 7 #[.int .i64 a0] w fun e w' => e = .returned (.bool true) ∧ Below w.heap.size w w' := by
  have TT := Lib.hid (datTabs hL)
  clear hL
  have k := wf_i64 w0
  by_cases k0 : a0 < 0 ∨ 2932896 ≤ a0
  · rcases Classical.em (a0 < 0) with h1 | h1
    all_goals
      have k1 := k0
      try have h2 : 2932896 ≤ a0 := k1.resolve_left h1
      clear k1 k0
      go_enter Tryd.func7, Tryd.ntmps7
      go_wp2_with fail
      refine (ex_any _ TT.out).mono ?_
      rintro e v1 ⟨rfl, hb⟩
      go_wp2_with fail
      go_ret
      exact ⟨rfl, hb⟩
  · have h1 : ¬ a0 < 0 := fun h => k0 (.inl h)
    have h2 : ¬ 2932896 ≤ a0 := fun h => k0 (.inr h)
    clear k0
    obtain ⟨N, rfl⟩ := Int.eq_ofNat_of_zero_le (show 0 ≤ a0 by omega)
    have hd := civ_date N (by omega)
    obtain ⟨Y, hY⟩ : ∃ Y, Y = (civ N).1 := ⟨_, rfl⟩
    obtain ⟨M, hM⟩ : ∃ M, M = (civ N).2.1 := ⟨_, rfl⟩
    obtain ⟨D, hD⟩ : ∃ D, D = (civ N).2.2 := ⟨_, rfl⟩
    rw [← hY, ← hM, ← hD] at hd
    clear hY hM hD
    have v := hd.v
    have vv0 := v.y0
    have vv1 := v.y1
    have vv2 := v.m0
    have vv3 := v.m1
    have vv4 := v.d0
    have vv5 := v.d1
    have vv6 := long_bd Y M vv2 vv3
    have e1 := civ_is hd (by omega)
    have e2 := day_back hd
    have e3 := wd_next N
    have c1 := fun W (hW : DatTabs W) => civil_any (N : Int) (by omega) W hW
    have c2 := fun W (hW : DatTabs W) => days_any (Y : Int) (M : Int) (D : Int) (by omega) (by omega) (by omega) W hW
    have c3 := fun W (hW : DatTabs W) => civil_any ((N : Int) + 1) (by omega) W hW
    have c4 := fun W => weekday_any (N : Int) (by omega) W
    have c5 := fun W => weekday_any ((N : Int) + 1) (by omega) W
    rw [e1.1, e1.2.1, e1.2.2.1, e1.2.2.2] at c1
    rw [e2.1, e2.2] at c2
    rw [← e3] at c5
    have hw0 : 0 ≤ wdN (N : Int) ∧ wdN (N : Int) ≤ 6 := by unfold wdN; rw [if_neg (by omega)]; omega
    obtain ⟨K, hK⟩ : ∃ K, K = wdN (N : Int) := ⟨_, rfl⟩
    rw [← hK] at c4 c5 hw0
    obtain ⟨Z, hZ⟩ : ∃ Z, (K + 1) % 7 = Z := ⟨_, rfl⟩
    rw [hZ] at c5
    have hnx := next_date hd (by omega)
    clear e1 e2 e3 hK v vv6
    rcases hnx with hn | ⟨hn, hn1⟩ | ⟨hn, hn1, hn2⟩
    · have e4 := civ_is hn (by omega)
      rw [show ((N + 1 : Nat) : Int) = (N : Int) + 1 by omega] at e4
      rw [e4.1, e4.2.1, e4.2.2.1, e4.2.2.2] at c3
      clear e4 hn
      rw [show ((D + 1 : Nat) : Int) = (D : Int) + 1 by omega] at c3
      have i1 : 1970 ≤ (Y : Int) ∧ (Y : Int) ≤ 9999 := by omega
      have i2 : 1 ≤ (M : Int) ∧ (M : Int) ≤ 12 := by omega
      have i3 : 1 ≤ (D : Int) ∧ (D : Int) ≤ 31 := by have := long_bd Y M vv2 vv3; omega
      have i4 : 0 ≤ (N : Int) ∧ (N : Int) < 2932896 := by omega
      clear vv0 vv1 vv2 vv3 vv4 vv5 h1 h2 w0 k hd
      generalize (Y : Int) = y at *
      generalize (M : Int) = m at *
      generalize (D : Int) = d at *
      generalize (N : Int) = n at *
      obtain ⟨i41, i42⟩ := i4
      obtain ⟨i11, i12⟩ := i1
      obtain ⟨i31, i32⟩ := i3
      obtain ⟨i21, i22⟩ := i2
      obtain ⟨w1, w2⟩ := hw0
      have C1 := Lib.hid c1
      have C2 := Lib.hid c2
      have C3 := Lib.hid c3
      have C4 := Lib.hid c4
      have C5 := Lib.hid c5
      clear c1 c2 c3 c4 c5
      go_enter Tryd.func7, Tryd.ntmps7
      have hb := Below.refl w.heap.size w
      go_wp2_with fail
      refine (C1.out _ (TT.out.kept hb)).mono ?_
      rintro e v1 ⟨rfl, hb1⟩
      have hb := below_then hb hb1
      clear hb1
      go_wp2_with fail
      refine (C2.out _ (TT.out.kept hb)).mono ?_
      rintro e v2 ⟨rfl, hb2⟩
      have hb := below_then hb hb2
      clear hb2
      go_wp2_with fail
      refine (C3.out _ (TT.out.kept hb)).mono ?_
      rintro e v3 ⟨rfl, hb3⟩
      have hb := below_then hb hb3
      clear hb3
      go_wp2_with fail
      refine (C4.out _).mono ?_
      rintro e v4 ⟨rfl, hb4⟩
      have hb := below_then hb hb4
      clear hb4
      go_wp2_with fail
      refine (C5.out _).mono ?_
      rintro e v5 ⟨rfl, hb5⟩
      have hb := below_then hb hb5
      clear hb5
      go_wp2_with fail
      refine (ex_any _ (TT.out.kept hb)).mono ?_
      rintro e v6 ⟨rfl, hb6⟩
      have hb := below_then hb hb6
      clear hb6
      go_wp2_with fail
      go_ret
      exact ⟨rfl, hb⟩
    · have e4 := civ_is hn (by omega)
      rw [show ((N + 1 : Nat) : Int) = (N : Int) + 1 by omega] at e4
      rw [e4.1, e4.2.1, e4.2.2.1, e4.2.2.2] at c3
      clear e4 hn
      rw [show ((M + 1 : Nat) : Int) = (M : Int) + 1 by omega, show ((1 : Nat) : Int) = 1 from rfl] at c3
      have i1 : 1970 ≤ (Y : Int) ∧ (Y : Int) ≤ 9999 := by omega
      have i2 : 1 ≤ (M : Int) ∧ (M : Int) ≤ 12 := by omega
      have i3 : 1 ≤ (D : Int) ∧ (D : Int) ≤ 31 := by have := long_bd Y M vv2 vv3; omega
      have i4 : 0 ≤ (N : Int) ∧ (N : Int) < 2932896 := by omega
      have i5 : 28 ≤ (D : Int) := by omega
      clear vv0 vv1 vv2 vv3 vv4 vv5 h1 h2 w0 k hd hn1
      generalize (Y : Int) = y at *
      generalize (M : Int) = m at *
      generalize (D : Int) = d at *
      generalize (N : Int) = n at *
      obtain ⟨i41, i42⟩ := i4
      obtain ⟨i11, i12⟩ := i1
      obtain ⟨i31, i32⟩ := i3
      obtain ⟨i21, i22⟩ := i2
      obtain ⟨w1, w2⟩ := hw0
      have C1 := Lib.hid c1
      have C2 := Lib.hid c2
      have C3 := Lib.hid c3
      have C4 := Lib.hid c4
      have C5 := Lib.hid c5
      clear c1 c2 c3 c4 c5
      go_enter Tryd.func7, Tryd.ntmps7
      have hb := Below.refl w.heap.size w
      go_wp2_with fail
      refine (C1.out _ (TT.out.kept hb)).mono ?_
      rintro e v7 ⟨rfl, hb7⟩
      have hb := below_then hb hb7
      clear hb7
      go_wp2_with fail
      refine (C2.out _ (TT.out.kept hb)).mono ?_
      rintro e v8 ⟨rfl, hb8⟩
      have hb := below_then hb hb8
      clear hb8
      go_wp2_with fail
      refine (C3.out _ (TT.out.kept hb)).mono ?_
      rintro e v9 ⟨rfl, hb9⟩
      have hb := below_then hb hb9
      clear hb9
      go_wp2_with fail
      refine (C4.out _).mono ?_
      rintro e v10 ⟨rfl, hb10⟩
      have hb := below_then hb hb10
      clear hb10
      go_wp2_with fail
      refine (C5.out _).mono ?_
      rintro e v11 ⟨rfl, hb11⟩
      have hb := below_then hb hb11
      clear hb11
      go_wp2_with fail
      refine (ex_any _ (TT.out.kept hb)).mono ?_
      rintro e v12 ⟨rfl, hb12⟩
      have hb := below_then hb hb12
      clear hb12
      go_wp2_with fail
      go_ret
      exact ⟨rfl, hb⟩
    · have e4 := civ_is hn (by omega)
      rw [show ((N + 1 : Nat) : Int) = (N : Int) + 1 by omega] at e4
      rw [e4.1, e4.2.1, e4.2.2.1, e4.2.2.2] at c3
      clear e4 hn
      rw [show ((Y + 1 : Nat) : Int) = (Y : Int) + 1 by omega, show ((1 : Nat) : Int) = 1 from rfl] at c3
      have i1 : 1970 ≤ (Y : Int) ∧ (Y : Int) ≤ 9999 := by omega
      have i2 : 1 ≤ (M : Int) ∧ (M : Int) ≤ 12 := by omega
      have i3 : 1 ≤ (D : Int) ∧ (D : Int) ≤ 31 := by have := long_bd Y M vv2 vv3; omega
      have i4 : 0 ≤ (N : Int) ∧ (N : Int) < 2932896 := by omega
      have i6 : (M : Int) = 12 := by omega
      have i7 : (D : Int) = 31 := by omega
      clear vv0 vv1 vv2 vv3 vv4 vv5 h1 h2 w0 k hd hn1 hn2
      generalize (Y : Int) = y at *
      generalize (M : Int) = m at *
      generalize (D : Int) = d at *
      generalize (N : Int) = n at *
      subst i6 i7
      obtain ⟨i41, i42⟩ := i4
      obtain ⟨i11, i12⟩ := i1
      clear i3
      clear i2
      obtain ⟨w1, w2⟩ := hw0
      have C1 := Lib.hid c1
      have C2 := Lib.hid c2
      have C3 := Lib.hid c3
      have C4 := Lib.hid c4
      have C5 := Lib.hid c5
      clear c1 c2 c3 c4 c5
      go_enter Tryd.func7, Tryd.ntmps7
      have hb := Below.refl w.heap.size w
      go_wp2_with fail
      refine (C1.out _ (TT.out.kept hb)).mono ?_
      rintro e v13 ⟨rfl, hb13⟩
      have hb := below_then hb hb13
      clear hb13
      go_wp2_with fail
      refine (C2.out _ (TT.out.kept hb)).mono ?_
      rintro e v14 ⟨rfl, hb14⟩
      have hb := below_then hb hb14
      clear hb14
      go_wp2_with fail
      refine (C3.out _ (TT.out.kept hb)).mono ?_
      rintro e v15 ⟨rfl, hb15⟩
      have hb := below_then hb hb15
      clear hb15
      go_wp2_with fail
      refine (C4.out _).mono ?_
      rintro e v16 ⟨rfl, hb16⟩
      have hb := below_then hb hb16
      clear hb16
      go_wp2_with fail
      refine (C5.out _).mono ?_
      rintro e v17 ⟨rfl, hb17⟩
      have hb := below_then hb hb17
      clear hb17
      go_wp2_with fail
      refine (ex_any _ (TT.out.kept hb)).mono ?_
      rintro e v18 ⟨rfl, hb18⟩
      have hb := below_then hb hb18
      clear hb18
      go_wp2_with fail
      go_ret
      exact ⟨rfl, hb⟩

theorem door_met (os : Os) (args : Array Value) : laidMetH Tryd.prog Rows.dateNextRow.laid ((World.laidAll Tryd.prog os Rows.dateNextRow.laid).forCall (fun _ _ => 0) ⟨#[], args, []⟩).memory := by
  rw [MakeChecks.laidMetH_plain _ _ _ (by kernel_rfl)]
  exact laidMet_laidAll _ (by kernel_rfl) (by kernel_rfl)

set_option maxRecDepth 100000 in
theorem lifted (os : Os) (started : os.Started) (H : Type) (enc : TypeId × Value → H) :
    ReturnsInHanded {} Tryd.checked os 7 .any (fun w args => (Rows.dateNextSpec.pre enc Tryd.prog Tryd.f7 [] false w args ∧ laidMetH Tryd.prog Rows.dateNextRow.laid w) ∧ sizedMet enc Tryd.prog Tryd.f7 (OpenSpec.ofChange Rows.dateNextSpec) false w args) (Rows.dateNextSpec.post enc Tryd.prog Tryd.f7 false true false false) := by
  refine returnsInHanded_of_change_and (C := Tryd.checked) (X := fun w _ => laidMetH Tryd.prog Rows.dateNextRow.laid w) (fun _ _ _ hh h => h.of_heap hh) own started (by kernel_rfl) Tryd.func7
    (ChangeSpec.witness_shaped (enc := enc) (C := Tryd.checked) (os := os) (X := fun w _ => laidMetH Tryd.prog Rows.dateNextRow.laid w) false (World.laidAll Tryd.prog os Rows.dateNextRow.laid) #[.int .i64 0] 8 rfl (World.shaped_of_ZipB (by kernel_rfl) (by kernel_rfl)) (by kernel_rfl) (by kernel_rfl) (by kernel_rfl) (door_met os _)) ?_
  intro W base args ds gs before hval0 hW _ _ hL _
  have hval : ∀ (j : Nat) t v, Tryd.f7.params[j]? = some t → args[j]? = some v → Value.okWide Tryd.prog W .any base t v := hval0
  have hW' := hW
  obtain ⟨p, q, hA0, hV, rfl, hfz, hnd⟩ := hW
  have hA : DataW.TrodAll enc Tryd.prog W 0 (fun _ => true) true Tryd.f7.params.toList args.toList ds p := hA0
  rw [Tryd.params7] at hA hval
  obtain ⟨v0, vs0, d0, ds0, p0, q0, hargs, rfl, rfl, h0, r0⟩ := trodAll_cons hA
  obtain ⟨rfl, rfl, rfl⟩ := trodAll_nil r0
  obtain rfl : args = #[v0] := by cases args; simp_all
  obtain ⟨rfl, rfl⟩ := trodVars_none hV
  obtain ⟨a0, rfl, rfl, rfl, w0⟩ := open_int Tryd.underlying3 (hval 0 3 v0 rfl rfl) h0
  clear hA0 hval0
  simp only [List.append_nil] at hW'
  refine (walk a0 w0 W hL).mono fun e W' ⟨he, hg⟩ => ?_
  subst he
  exact ⟨_, rfl, _, _, _, [], [], [], hW', (trodAll_cons_mk (shut_bool Tryd.underlying4 _) trodAll_mk0), (trodAll_cons_mk (shut_int Tryd.underlying3 w0) trodAll_mk0), rfl, hg.frame _, fun h => by cases h⟩

theorem over : Rows.dateNextRow.holds Tryd.pinned (OpenSpec.ofChange Rows.dateNextSpec) :=
  OpenClaim.holds_of_wide 7 Tryd.f7 rfl rfl rfl rfl rfl rfl rfl ⟨rfl, rfl, rfl, rfl, rfl⟩ rfl rfl rfl rfl rfl (by kernel_rfl) Tryd.func7 (by kernel_rfl)
    (of_decide_eq_true (by kernel_rfl)) (by unfold Func.isWrapper; first | (rw [if_pos (by decide +kernel)]; kernel_rfl) | (rw [if_neg (by decide +kernel)]; exact ⟨rfl, rfl⟩))
    (fun os started H enc _ => lifted os started H enc)

theorem said : Rows.DateNextSaid :=
  over

theorem plain (f : FuncId) (fn : Func) (hf : Tryd.pinned.checked.prog.funcNamed "depot/depotlaw07.DateNext" = some f) (hfn : Tryd.pinned.checked.prog.funcs[f]? = some fn) :
    false = Tryd.pinned.checked.prog.looks [] ∧ ∀ (j : Nat) t, fn.params[j]? = some t → Tryd.pinned.checked.prog.wantsStandIn t = false := by
  obtain rfl : f = 7 := Option.some.inj ((show Tryd.prog.funcNamed "depot/depotlaw07.DateNext" = some 7 by kernel_rfl).symm.trans hf) |>.symm
  obtain rfl : fn = Tryd.f7 := (Option.some.inj (Tryd.func7.symm.trans hfn)).symm
  refine ⟨by kernel_rfl, fun j t ht => ?_⟩
  rw [Tryd.params7] at ht
  · obtain rfl : t = 3 := by simpa using Array.mem_of_getElem? ht
    exact (show Tryd.prog.wantsStandIn 3 = false by kernel_rfl)

theorem proved : Rows.DateNextCardSaid :=
  Claim7.holds_tied_plain_at .later [] _ _ _ _ said (fun _ h => by cases h) (by kernel_rfl) (fun _ h => by cases h) dateNext_row_tie rfl ⟨rfl, rfl⟩ (by kernel_rfl) rfl plain (by kernel_rfl)
#print axioms proved
end Go.Proofs.YtamhipgeeidlcaaDoor.dateNext
