/-
  The law DateWrites returns true for every time and leaves what it was given as it was, tied to the program's own text: its tables and the library's start as their initialisers lay them.
-/
import Derived.Test.YtamhipgeeidlcaaDoorRows
import Derived.WalkKit
import Derived.ProofKit
import Derived.OpenShut
import Derived.ShutString
import Derived.Test.YtamhipgeeidlcaaDoorDatX
import Derived.Test.YtamhipgeeidlcaaDoorDatLd
import Derived.Below
import Derived.ChangeOld
import Derived.Test.YtamhipgeeidlcaaDoorCards
import Derived.Test.YtamhipgeeidlcaaDoorTie
import Derived.LaidMore
import Derived.Lib.LaidTab
import Derived.Stop.Joined
import Derived.Lay
namespace Go.Proofs.YtamhipgeeidlcaaDoor.dateWrites
open Go.ChangeShapes Go.WideShapes Go.ChangeAt Go.RowKit
open Go.ChangeMaps (open_string shut_string)
set_option linter.unusedVariables false      -- a walk need not use every 'w<i>' (that an integer argument fits its kind)

theorem own : ownKnob Tryd.prog.godebug = none := by kernel_rfl

set_option maxHeartbeats 8000000 in
set_option maxRecDepth 100000 in
theorem walk (a0 : Int) (w0 : (Lit.int .i64 a0).wf = true) (w : World) (hL : laidMetH Tryd.prog Rows.dateWritesRow.laid w) :
    Calls Tryd.prog 4 #[.int .i64 a0] w fun e w' => e = .returned (.bool true) ∧ Below w.heap.size w w' := by
  have TT := Lib.hid (datTabs hL)
  clear hL
  have t := wf_i64 w0
  have c1 := fun W (hW : DatTabs W) => format_any a0 t W hW
  have c2 := fun W => r_format a0 t W
  have c3 := fun W (hW : DatTabs W) => old_any a0 t W hW
  have c4 := fun W => r_old a0 t W
  have c5 := fun W (hW : DatTabs W) => plain7_any a0 t W hW
  have c6 := fun W => r_plain7 a0 t W
  generalize mkS (fmtI a0) = F at *
  generalize mkS (oldI a0) = O at *
  generalize mkS (plnI a0) = P at *
  have C1 := Lib.hid c1
  have C2 := Lib.hid c2
  have C3 := Lib.hid c3
  have C4 := Lib.hid c4
  have C5 := Lib.hid c5
  have C6 := Lib.hid c6
  clear c1 c2 c3 c4 c5 c6
  go_enter Tryd.func4, Tryd.ntmps4
  have hb := Below.refl w.heap.size w
  go_wp2_with fail
  refine (C1.out _ (TT.out.kept hb)).mono ?_
  rintro e v1 ⟨rfl, hb1⟩
  have hb := below_then hb hb1
  clear hb1
  go_wp2_with fail
  refine (C2.out _).mono ?_
  rintro e v2 ⟨rfl, hb2⟩
  have hb := below_then hb hb2
  clear hb2
  go_wp2_with fail
  refine (C3.out _ (TT.out.kept hb)).mono ?_
  rintro e v3 ⟨rfl, hb3⟩
  have hb := below_then hb hb3
  clear hb3
  go_wp2_with fail
  refine (C4.out _).mono ?_
  rintro e v4 ⟨rfl, hb4⟩
  have hb := below_then hb hb4
  clear hb4
  go_wp2_with fail
  refine (C5.out _ (TT.out.kept hb)).mono ?_
  rintro e v5 ⟨rfl, hb5⟩
  have hb := below_then hb hb5
  clear hb5
  go_wp2_with fail
  refine (C6.out _).mono ?_
  rintro e v6 ⟨rfl, hb6⟩
  have hb := below_then hb hb6
  clear hb6
  go_wp2_with fail
  refine (ex_any _ (TT.out.kept hb)).mono ?_
  rintro e v7 ⟨rfl, hb7⟩
  have hb := below_then hb hb7
  clear hb7
  go_wp2_with fail
  go_ret
  exact ⟨rfl, hb⟩

theorem door_met (os : Os) (args : Array Value) : laidMetH Tryd.prog Rows.dateWritesRow.laid ((World.laidAll Tryd.prog os Rows.dateWritesRow.laid).forCall (fun _ _ => 0) ⟨#[], args, []⟩).memory := by
  rw [MakeChecks.laidMetH_plain _ _ _ (by kernel_rfl)]
  exact laidMet_laidAll _ (by kernel_rfl) (by kernel_rfl)

set_option maxRecDepth 100000 in
theorem lifted (os : Os) (started : os.Started) (H : Type) (enc : TypeId × Value → H) :
    ReturnsInHanded {} Tryd.checked os 4 .any (fun w args => (Rows.dateWritesSpec.pre enc Tryd.prog Tryd.f4 [] false w args ∧ laidMetH Tryd.prog Rows.dateWritesRow.laid w) ∧ sizedMet enc Tryd.prog Tryd.f4 (OpenSpec.ofChange Rows.dateWritesSpec) false w args) (Rows.dateWritesSpec.post enc Tryd.prog Tryd.f4 false true false false) := by
  refine returnsInHanded_of_change_and (C := Tryd.checked) (X := fun w _ => laidMetH Tryd.prog Rows.dateWritesRow.laid w) (fun _ _ _ hh h => h.of_heap hh) own started (by kernel_rfl) Tryd.func4
    (ChangeSpec.witness_shaped (enc := enc) (C := Tryd.checked) (os := os) (X := fun w _ => laidMetH Tryd.prog Rows.dateWritesRow.laid w) false (World.laidAll Tryd.prog os Rows.dateWritesRow.laid) #[.int .i64 0] 8 rfl (World.shaped_of_ZipB (by kernel_rfl) (by kernel_rfl)) (by kernel_rfl) (by kernel_rfl) (by kernel_rfl) (door_met os _)) ?_
  intro W base args ds gs before hval0 hW _ _ hL _
  have hval : ∀ (j : Nat) t v, Tryd.f4.params[j]? = some t → args[j]? = some v → Value.okWide Tryd.prog W .any base t v := hval0
  have hW' := hW
  obtain ⟨p, q, hA0, hV, rfl, hfz, hnd⟩ := hW
  have hA : DataW.TrodAll enc Tryd.prog W 0 (fun _ => true) true Tryd.f4.params.toList args.toList ds p := hA0
  rw [Tryd.params4] at hA hval
  obtain ⟨v0, vs0, d0, ds0, p0, q0, hargs, rfl, rfl, h0, r0⟩ := trodAll_cons hA
  obtain ⟨rfl, rfl, rfl⟩ := trodAll_nil r0
  obtain rfl : args = #[v0] := by cases args; simp_all
  obtain ⟨rfl, rfl⟩ := trodVars_none hV
  obtain ⟨a0, rfl, rfl, rfl, w0⟩ := open_int Tryd.underlying3 (hval 0 3 v0 rfl rfl) h0
  clear hA0 hval0
  simp only [List.append_nil] at hW'
  refine (walk a0 w0 W hL).mono fun e W' ⟨he, hg⟩ => ?_
  subst he
  exact ⟨_, rfl, _, _, _, [], [], [], hW', (trodAll_cons_mk (shut_bool Tryd.underlying4 _) trodAll_mk0), (trodAll_cons_mk (shut_int Tryd.underlying3 w0) trodAll_mk0), rfl, hg.frame _, fun h => by cases h⟩

theorem over : Rows.dateWritesRow.holds Tryd.pinned (OpenSpec.ofChange Rows.dateWritesSpec) :=
  OpenClaim.holds_of_wide 4 Tryd.f4 rfl rfl rfl rfl rfl rfl rfl ⟨rfl, rfl, rfl, rfl, rfl⟩ rfl rfl rfl rfl rfl (by kernel_rfl) Tryd.func4 (by kernel_rfl)
    (of_decide_eq_true (by kernel_rfl)) (by unfold Func.isWrapper; first | (rw [if_pos (by decide +kernel)]; kernel_rfl) | (rw [if_neg (by decide +kernel)]; exact ⟨rfl, rfl⟩))
    (fun os started H enc _ => lifted os started H enc)

theorem said : Rows.DateWritesSaid :=
  over

theorem plain (f : FuncId) (fn : Func) (hf : Tryd.pinned.checked.prog.funcNamed "depot/depotlaw07.DateWrites" = some f) (hfn : Tryd.pinned.checked.prog.funcs[f]? = some fn) :
    false = Tryd.pinned.checked.prog.looks [] ∧ ∀ (j : Nat) t, fn.params[j]? = some t → Tryd.pinned.checked.prog.wantsStandIn t = false := by
  obtain rfl : f = 4 := Option.some.inj ((show Tryd.prog.funcNamed "depot/depotlaw07.DateWrites" = some 4 by kernel_rfl).symm.trans hf) |>.symm
  obtain rfl : fn = Tryd.f4 := (Option.some.inj (Tryd.func4.symm.trans hfn)).symm
  refine ⟨by kernel_rfl, fun j t ht => ?_⟩
  rw [Tryd.params4] at ht
  · obtain rfl : t = 3 := by simpa using Array.mem_of_getElem? ht
    exact (show Tryd.prog.wantsStandIn 3 = false by kernel_rfl)

theorem proved : Rows.DateWritesCardSaid :=
  Claim7.holds_tied_plain_at .later [] _ _ _ _ said (fun _ h => by cases h) (by kernel_rfl) (fun _ h => by cases h) dateWrites_row_tie rfl ⟨rfl, rfl⟩ (by kernel_rfl) rfl plain (by kernel_rfl)
#print axioms proved
end Go.Proofs.YtamhipgeeidlcaaDoor.dateWrites
