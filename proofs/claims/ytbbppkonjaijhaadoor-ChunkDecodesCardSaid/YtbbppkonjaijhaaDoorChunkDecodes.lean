/-
  The law ChunkDecodes (depotlaw11) returns true for every text and leaves what it was given as it was. No condition.
-/
import Derived.Test.YtbbppkonjaijhaaDoorRows
import Derived.WalkKit
import Derived.ProofKit
import Derived.OpenShut
import Derived.ShutString
import Derived.ChangeOld
import Derived.Below
import Derived.Test.YtbbppkonjaijhaaDoorMrgA
import Derived.Test.YtbbppkonjaijhaaDoorMrgB
import Derived.Test.YtbbppkonjaijhaaDoorMrgC
import Derived.Test.YtbbppkonjaijhaaDoorMrgD
import Derived.Test.YtbbppkonjaijhaaDoorMrgE
import Derived.Test.YtbbppkonjaijhaaDoorMrgF
import Derived.Test.YtbbppkonjaijhaaDoorMrgG
import Derived.Test.YtbbppkonjaijhaaDoorMrgH
import Derived.Test.YtbbppkonjaijhaaDoorMrgI
import Derived.Test.YtbbppkonjaijhaaDoorMrgJ
import Derived.Test.YtbbppkonjaijhaaDoorMrgK
import Derived.Test.YtbbppkonjaijhaaDoorMrgL
import Derived.Test.YtbbppkonjaijhaaDoorMrgM
import Derived.Test.YtbbppkonjaijhaaDoorMrgN
import Derived.Test.YtbbppkonjaijhaaDoorMrgO
import Derived.Test.YtbbppkonjaijhaaDoorMrgP
import Derived.Test.YtbbppkonjaijhaaDoorMrgQ
import Derived.Test.YtbbppkonjaijhaaDoorMrgR
import Derived.Test.YtbbppkonjaijhaaDoorMrgS
import Derived.Test.YtbbppkonjaijhaaDoorMrgT
import Derived.Test.YtbbppkonjaijhaaDoorMrgU
import Derived.Test.YtbbppkonjaijhaaDoorMrgV
import Derived.Test.YtbbppkonjaijhaaDoorMrgW
import Derived.Test.YtbbppkonjaijhaaDoorMrgX
import Derived.Test.YtbbppkonjaijhaaDoorMrgY
import Derived.Test.YtbbppkonjaijhaaDoorMrgZ
import Derived.Test.YtbbppkonjaijhaaDoorMrgAA
import Derived.Test.YtbbppkonjaijhaaDoorMrgAB
import Derived.Test.YtbbppkonjaijhaaDoorCards
import Derived.Test.YtbbppkonjaijhaaDoorTie
import Derived.LaidMore
import Derived.Lib.LaidTab
import Derived.Stop.Joined
import Derived.Lay
namespace Go.Proofs.YtbbppkonjaijhaaDoor.chunkDecodes
open Go.ChangeShapes Go.WideShapes Go.ChangeAt Go.RowKit
open Go.ChangeMaps (open_string shut_string)
set_option linter.unusedVariables false

theorem own : ownKnob Tryd.prog.godebug = none := by kernel_rfl
theorem laidOut : laidOutB Tryd.prog = true := by kernel_rfl

set_option maxHeartbeats 8000000 in
set_option maxRecDepth 100000 in
theorem walk (a0 : ByteArray) (w : World) (w0 : a0.size ≤ maxLen) (hL : laidMetH Tryd.prog Rows.chunkDecodesRow.laid w) (hsh : w.ShapedOpen Tryd.prog) :
    Calls Tryd.prog 3 #[.string a0] w fun e w' => e = .returned (.bool true) ∧ Below w.heap.size w w' := by
  have HT := Lib.hid (chkTabs hL hsh)
  clear hL hsh
  have cx := fun W (hW : Below w.heap.size w W) => ex11_any W (HT.out.kept hW)
  have CX := Lib.hid cx
  clear cx
  by_cases h0 : (3000 : Int) < (a0.size : Int)
  · go_enter Tryd.func3, Tryd.ntmps3
    go_wp2_with fail
    refine (CX.out _ (Below.refl _ _)).mono ?_
    rintro e w2 ⟨rfl, hb2⟩
    go_wp2_with fail
    go_ret
    exact ⟨rfl, hb2⟩
  · have c1 := fun W (hW : Below w.heap.size w W) => decode_any a0 W (by omega) (HT.out.kept hW)
    have c2 := fun W => r_decode a0 W (by omega)
    generalize decB a0 = A at *
    generalize decN a0 = N at *
    generalize decE a0 = E at *
    have C1 := Lib.hid c1
    have C2 := Lib.hid c2
    clear c1 c2
    go_enter Tryd.func3, Tryd.ntmps3
    go_wp2_with fail
    refine (C1.out _ (Below.refl _ _)).mono ?_
    rintro e v1 ⟨rfl, hb1⟩
    have HB1 := Lib.hid hb1
    clear hb1
    go_wp2_with fail
    refine (C2.out _).mono ?_
    rintro e v2 ⟨rfl, hb2⟩
    have HB2 := Lib.hid (below_then HB1.out hb2)
    clear hb2
    go_wp2_with fail
    refine (CX.out _ HB2.out).mono ?_
    rintro e v5 ⟨rfl, hb5⟩
    go_wp2_with fail
    go_ret
    exact ⟨rfl, below_then HB2.out hb5⟩

theorem door_met (os : Os) (args : Array Value) : laidMetH Tryd.prog Rows.chunkDecodesRow.laid ((World.laidAll Tryd.prog os Rows.chunkDecodesRow.laid).forCall (fun _ _ => 0) ⟨#[], args, []⟩).memory := by
  rw [MakeChecks.laidMetH_plain _ _ _ (by kernel_rfl)]
  exact laidMet_laidAll _ (by kernel_rfl) (by kernel_rfl)

set_option maxRecDepth 100000 in
theorem lifted (os : Os) (started : os.Started) (H : Type) (enc : TypeId × Value → H) :
    ReturnsInHanded {} Tryd.checked os 3 .any (fun w args => (Rows.chunkDecodesSpec.pre enc Tryd.prog Tryd.f3 [] false w args ∧ laidMetH Tryd.prog Rows.chunkDecodesRow.laid w) ∧ sizedMet enc Tryd.prog Tryd.f3 (OpenSpec.ofChange Rows.chunkDecodesSpec) false w args) (Rows.chunkDecodesSpec.post enc Tryd.prog Tryd.f3 false true false false) := by
  refine returns_and_shaped (C := Tryd.checked) (X := fun w _ => laidMetH Tryd.prog Rows.chunkDecodesRow.laid w) (fun _ _ _ hh h => h.of_heap hh) own started (by kernel_rfl) Tryd.func3
    (ChangeSpec.witness_shaped (enc := enc) (C := Tryd.checked) (os := os) (X := fun w _ => laidMetH Tryd.prog Rows.chunkDecodesRow.laid w) false (World.laidAll Tryd.prog os Rows.chunkDecodesRow.laid) #[.string ByteArray.empty] 8 rfl (World.shaped_of_ZipB (by kernel_rfl) (by kernel_rfl)) (by kernel_rfl) (by kernel_rfl) (by kernel_rfl) (door_met os _)) ?_
  intro W base args ds gs before hval0 hW hL hsh
  have hval : ∀ (j : Nat) t v, Tryd.f3.params[j]? = some t → args[j]? = some v → Value.okWide Tryd.prog W .any base t v := hval0
  have hW' := hW
  obtain ⟨p, q, hA0, hV, rfl, hfz, hnd⟩ := hW
  have hA : DataW.TrodAll enc Tryd.prog W 0 (fun _ => true) true Tryd.f3.params.toList args.toList ds p := hA0
  rw [Tryd.params3] at hA hval
  obtain ⟨v0, vs0, d0, ds0, p0, q0, hargs, rfl, rfl, h0, r0⟩ := trodAll_cons hA
  obtain ⟨rfl, rfl, rfl⟩ := trodAll_nil r0
  obtain rfl : args = #[v0] := by cases args; simp_all
  obtain ⟨rfl, rfl⟩ := trodVars_none hV
  obtain ⟨a0, rfl, rfl, rfl, w0⟩ := open_string Tryd.underlying9 (hval 0 9 v0 rfl rfl) h0
  clear hA0 hval0
  refine (walk a0 W w0 hL hsh).mono fun e W' ⟨he, bel⟩ => ?_
  subst he
  exact ⟨_, rfl, _, _, _, [], _, [], hW', trodAll_mk1 (shut_bool Tryd.underlying4 _), (trodAll_cons_mk (shut_string Tryd.underlying9 w0) trodAll_mk0), rfl, bel.frame _, fun h => by cases h⟩

theorem over : Rows.chunkDecodesRow.holds Tryd.pinned (OpenSpec.ofChange Rows.chunkDecodesSpec) :=
  OpenClaim.holds_of_wide 3 Tryd.f3 rfl rfl rfl rfl rfl rfl rfl ⟨rfl, rfl, rfl, rfl, rfl⟩ rfl rfl rfl rfl rfl (by kernel_rfl) Tryd.func3 (by kernel_rfl)
    (of_decide_eq_true (by kernel_rfl)) (by unfold Func.isWrapper; first | (rw [if_pos (by decide +kernel)]; kernel_rfl) | (rw [if_neg (by decide +kernel)]; exact ⟨rfl, rfl⟩))
    (fun os started H enc _ => lifted os started H enc)

theorem said : Rows.ChunkDecodesSaid :=
  over

theorem plain (f : FuncId) (fn : Func) (hf : Tryd.pinned.checked.prog.funcNamed "depot/depotlaw11.ChunkDecodes" = some f) (hfn : Tryd.pinned.checked.prog.funcs[f]? = some fn) :
    false = Tryd.pinned.checked.prog.looks [] ∧ ∀ (j : Nat) t, fn.params[j]? = some t → Tryd.pinned.checked.prog.wantsStandIn t = false := by
  obtain rfl : f = 3 := Option.some.inj ((show Tryd.prog.funcNamed "depot/depotlaw11.ChunkDecodes" = some 3 by kernel_rfl).symm.trans hf) |>.symm
  obtain rfl : fn = Tryd.f3 := (Option.some.inj (Tryd.func3.symm.trans hfn)).symm
  refine ⟨by kernel_rfl, fun j t ht => ?_⟩
  rw [Tryd.params3] at ht
  · obtain rfl : t = 9 := by simpa using Array.mem_of_getElem? ht
    exact (show Tryd.prog.wantsStandIn 9 = false by kernel_rfl)

theorem proved : Rows.ChunkDecodesCardSaid :=
  Claim7.holds_tied_plain_at .later [] _ _ _ _ said (fun _ h => by cases h) (by kernel_rfl) (fun _ h => by cases h) chunkDecodes_row_tie rfl ⟨rfl, rfl⟩ (by kernel_rfl) rfl plain (by kernel_rfl)
#print axioms proved
end Go.Proofs.YtbbppkonjaijhaaDoor.chunkDecodes
