/-
  The law MessageRequests (depotlaw12) returns true for every message and leaves what it was given as it was. No condition.
-/
import Derived.Test.YtjcomlklmfeimaaGreatDoorRows
import Derived.WalkKit
import Derived.ProofKit
import Derived.OpenShut
import Derived.ShutString
import Derived.ChangeOld
import Derived.Below
import Derived.Test.YtjcomlklmfeimaaGreatDoorMrgA
import Derived.Test.YtjcomlklmfeimaaGreatDoorMrgB
import Derived.Test.YtjcomlklmfeimaaGreatDoorMrgC
import Derived.Test.YtjcomlklmfeimaaGreatDoorMrgD
import Derived.Test.YtjcomlklmfeimaaGreatDoorMrgE
import Derived.Test.YtjcomlklmfeimaaGreatDoorMrgF
import Derived.Test.YtjcomlklmfeimaaGreatDoorMrgG
import Derived.Test.YtjcomlklmfeimaaGreatDoorMrgH
import Derived.Test.YtjcomlklmfeimaaGreatDoorMrgI
import Derived.Test.YtjcomlklmfeimaaGreatDoorMrgJ
import Derived.Test.YtjcomlklmfeimaaGreatDoorMrgK
import Derived.Test.YtjcomlklmfeimaaGreatDoorMrgL
import Derived.Test.YtjcomlklmfeimaaGreatDoorMrgM
import Derived.Test.YtjcomlklmfeimaaGreatDoorMrgN
import Derived.Test.YtjcomlklmfeimaaGreatDoorMrgO
import Derived.Test.YtjcomlklmfeimaaGreatDoorMrgP
import Derived.Test.YtjcomlklmfeimaaGreatDoorMrgQ
import Derived.Test.YtjcomlklmfeimaaGreatDoorMrgR
import Derived.Test.YtjcomlklmfeimaaGreatDoorMrgS
import Derived.Test.YtjcomlklmfeimaaGreatDoorMrgT
import Derived.Test.YtjcomlklmfeimaaGreatDoorMrgU
import Derived.Test.YtjcomlklmfeimaaGreatDoorMrgV
import Derived.Test.YtjcomlklmfeimaaGreatDoorMrgW
import Derived.Test.YtjcomlklmfeimaaGreatDoorMrgX
import Derived.Test.YtjcomlklmfeimaaGreatDoorMrgY
import Derived.Test.YtjcomlklmfeimaaGreatDoorMrgZ
import Derived.Test.YtjcomlklmfeimaaGreatDoorMrgAA
import Derived.Test.YtjcomlklmfeimaaGreatDoorMrgAB
import Derived.Test.YtjcomlklmfeimaaGreatDoorMrgAC
import Derived.Test.YtjcomlklmfeimaaGreatDoorMrgAD
import Derived.Test.YtjcomlklmfeimaaGreatDoorMrgAE
import Derived.Test.YtjcomlklmfeimaaGreatDoorMrgAF
import Derived.Test.YtjcomlklmfeimaaGreatDoorMrgAG
import Derived.Test.YtjcomlklmfeimaaGreatDoorMrgAH
import Derived.Test.YtjcomlklmfeimaaGreatDoorMrgAI
import Derived.Test.YtjcomlklmfeimaaGreatDoorMrgAJ
import Derived.Test.YtjcomlklmfeimaaGreatDoorMrgAK
import Derived.Test.YtjcomlklmfeimaaGreatDoorCards
import Derived.Test.YtjcomlklmfeimaaGreatDoorTie
import Derived.LaidMore
import Derived.Lib.LaidTab
import Derived.Stop.Joined
import Derived.Lay
namespace Go.Proofs.YtjcomlklmfeimaaGreatDoor.messageRequests
open Go.ChangeShapes Go.WideShapes Go.ChangeAt Go.RowKit
open Go.ChangeMaps (open_string shut_string)
set_option linter.unusedVariables false

theorem own : ownKnob Tryz.prog.godebug = none := by kernel_rfl
theorem laidOut : laidOutB Tryz.prog = true := by kernel_rfl

set_option maxHeartbeats 8000000 in
set_option maxRecDepth 100000 in
theorem walk (a0 : ByteArray) (w : World) (w0 : a0.size ≤ maxLen) (hL : laidMetH Tryz.prog Rows.messageRequestsRow.laid w) (hsh : w.ShapedOpen Tryz.prog) :
    Calls Tryz.prog 3 #[.string a0] w fun e w' => e = .returned (.bool true) ∧ Below w.heap.size w w' := by
  have HT := Lib.hid (msgTabs hL hsh)
  clear hL hsh
  have cx := fun W (hW : Below w.heap.size w W) => ex12_any W (HT.out.kept hW)
  have CX := Lib.hid cx
  clear cx
  by_cases h0 : (5000 : Int) < (a0.size : Int)
  · skip
    go_enter Tryz.func3, Tryz.ntmps3
    go_wp2_with fail
    refine (CX.out _ (Below.refl _ _)).mono ?_
    rintro e w2 ⟨rfl, hb2⟩
    go_wp2_with fail
    go_ret
    exact ⟨rfl, hb2⟩
  · have C1 := Lib.hid (fun W (hW : Below w.heap.size w W) => msgQ_any a0 W (by omega) (HT.out.kept hW))
    have C2 := Lib.hid (fun W => r_parseRequest a0 W (by omega))
    have hlen : (pqR a0).f.length ≤ 100000000 := pq_len (by omega)
    have C3 := Lib.hid (fun W A B c d (h : SlF W A (pqR a0).f.length c (pqR a0).f) (h' : SlF W B (pqR a0).f.length d (pqR a0).f) => r_sameQ (pqR a0) A B c d W h h' hlen)
    clear hlen
    generalize pqE a0 = E at *
    generalize pqR a0 = R at *
    obtain ⟨m, t, v, f, b⟩ := R
    unfold IsRq at *
    unfold rqC at *
    simp only at *
    go_enter Tryz.func3, Tryz.ntmps3
    go_wp2_with fail
    refine (C1.out _ (Below.refl _ _)).mono ?_
    rintro e w1 ⟨A1, k1, rfl, hF1, _, hb1⟩
    have HB := Lib.hid (hb1.alloc hb1.size (.cells #[.string m, .string t, .int .i64 v, .slice A1 f.length k1, .string b] 25))
    have Z1 := Lib.hid (heap_alloc_new w1 (.cells #[.string m, .string t, .int .i64 v, .slice A1 f.length k1, .string b] 25))
    have F1 := Lib.hid (hF1.alloc (.cells #[.string m, .string t, .int .i64 v, .slice A1 f.length k1, .string b] 25))
    clear hF1 hb1
    go_wp2_with fail
    refine (C2.out _).mono ?_
    rintro e w2 ⟨A2, k2, rfl, hF2, _, hb2⟩
    have hb := below_then HB.out hb2
    have HB := Lib.hid (hb.alloc hb.size (.cells #[.string m, .string t, .int .i64 v, .slice A2 f.length k2, .string b] 25))
    have Z1 := Lib.hid (zero_more (o' := .cells #[.string m, .string t, .int .i64 v, .slice A2 f.length k2, .string b] 25) (zero_still hb2 Z1.out))
    have F1 := Lib.hid ((F1.out.below hb2).alloc (.cells #[.string m, .string t, .int .i64 v, .slice A2 f.length k2, .string b] 25))
    have Z2 := Lib.hid (heap_alloc_new w2 (.cells #[.string m, .string t, .int .i64 v, .slice A2 f.length k2, .string b] 25))
    have F2 := Lib.hid (hF2.alloc (.cells #[.string m, .string t, .int .i64 v, .slice A2 f.length k2, .string b] 25))
    clear hF2 hb2 hb
    obtain ⟨x0, x1, x2, x3, x4⟩ := cel5 Z1.out
    go_wp2_with fail
    refine (C3.out _ _ _ _ _ F1.out F2.out).mono ?_
    rintro e w3 ⟨rfl, hb3⟩
    have HB := Lib.hid (below_then HB.out hb3)
    clear hb3
    go_wp2_with fail
    refine (CX.out _ HB.out).mono ?_
    rintro e w4 ⟨rfl, hb4⟩
    go_wp2_with fail
    go_ret
    exact ⟨rfl, below_then HB.out hb4⟩

theorem door_met (os : Os) (args : Array Value) : laidMetH Tryz.prog Rows.messageRequestsRow.laid ((World.laidAll Tryz.prog os Rows.messageRequestsRow.laid).forCall (fun _ _ => 0) ⟨#[], args, []⟩).memory := by
  rw [MakeChecks.laidMetH_plain _ _ _ (by kernel_rfl)]
  exact laidMet_laidAll _ (by kernel_rfl) (by kernel_rfl)

set_option maxRecDepth 100000 in
theorem lifted (os : Os) (started : os.Started) (H : Type) (enc : TypeId × Value → H) :
    ReturnsInHanded {} Tryz.checked os 3 .any (fun w args => (Rows.messageRequestsSpec.pre enc Tryz.prog Tryz.f3 [] false w args ∧ laidMetH Tryz.prog Rows.messageRequestsRow.laid w) ∧ sizedMet enc Tryz.prog Tryz.f3 (OpenSpec.ofChange Rows.messageRequestsSpec) false w args) (Rows.messageRequestsSpec.post enc Tryz.prog Tryz.f3 false true false false) := by
  refine returns_and_shaped (C := Tryz.checked) (X := fun w _ => laidMetH Tryz.prog Rows.messageRequestsRow.laid w) (fun _ _ _ hh h => h.of_heap hh) own started (by kernel_rfl) Tryz.func3
    (ChangeSpec.witness_shaped (enc := enc) (C := Tryz.checked) (os := os) (X := fun w _ => laidMetH Tryz.prog Rows.messageRequestsRow.laid w) false (World.laidAll Tryz.prog os Rows.messageRequestsRow.laid) #[.string ByteArray.empty] 8 rfl (World.shaped_of_ZipB (by kernel_rfl) (by kernel_rfl)) (by kernel_rfl) (by kernel_rfl) (by kernel_rfl) (door_met os _)) ?_
  intro W base args ds gs before hval0 hW hL hsh
  have hval : ∀ (j : Nat) t v, Tryz.f3.params[j]? = some t → args[j]? = some v → Value.okWide Tryz.prog W .any base t v := hval0
  have hW' := hW
  obtain ⟨p, q, hA0, hV, rfl, hfz, hnd⟩ := hW
  have hA : DataW.TrodAll enc Tryz.prog W 0 (fun _ => true) true Tryz.f3.params.toList args.toList ds p := hA0
  rw [Tryz.params3] at hA hval
  obtain ⟨v0, vs0, d0, ds0, p0, q0, hargs, rfl, rfl, h0, r0⟩ := trodAll_cons hA
  obtain ⟨rfl, rfl, rfl⟩ := trodAll_nil r0
  obtain rfl : args = #[v0] := by cases args; simp_all
  obtain ⟨rfl, rfl⟩ := trodVars_none hV
  obtain ⟨a0, rfl, rfl, rfl, w0⟩ := open_string Tryz.underlying9 (hval 0 9 v0 rfl rfl) h0
  clear hA0 hval0
  refine (walk a0 W w0 hL hsh).mono fun e W' ⟨he, bel⟩ => ?_
  subst he
  exact ⟨_, rfl, _, _, _, [], _, [], hW', trodAll_mk1 (shut_bool Tryz.underlying4 _), (trodAll_cons_mk (shut_string Tryz.underlying9 w0) trodAll_mk0), rfl, bel.frame _, fun h => by cases h⟩

theorem over : Rows.messageRequestsRow.holds Tryz.pinned (OpenSpec.ofChange Rows.messageRequestsSpec) :=
  OpenClaim.holds_of_wide 3 Tryz.f3 rfl rfl rfl rfl rfl rfl rfl ⟨rfl, rfl, rfl, rfl, rfl⟩ rfl rfl rfl rfl rfl (by kernel_rfl) Tryz.func3 (by kernel_rfl)
    (of_decide_eq_true (by kernel_rfl)) (by unfold Func.isWrapper; first | (rw [if_pos (by decide +kernel)]; kernel_rfl) | (rw [if_neg (by decide +kernel)]; exact ⟨rfl, rfl⟩))
    (fun os started H enc _ => lifted os started H enc)

theorem said : Rows.MessageRequestsSaid :=
  over

theorem plain (f : FuncId) (fn : Func) (hf : Tryz.pinned.checked.prog.funcNamed "depot/depotlaw12.MessageRequests" = some f) (hfn : Tryz.pinned.checked.prog.funcs[f]? = some fn) :
    false = Tryz.pinned.checked.prog.looks [] ∧ ∀ (j : Nat) t, fn.params[j]? = some t → Tryz.pinned.checked.prog.wantsStandIn t = false := by
  obtain rfl : f = 3 := Option.some.inj ((show Tryz.prog.funcNamed "depot/depotlaw12.MessageRequests" = some 3 by kernel_rfl).symm.trans hf) |>.symm
  obtain rfl : fn = Tryz.f3 := (Option.some.inj (Tryz.func3.symm.trans hfn)).symm
  refine ⟨by kernel_rfl, fun j t ht => ?_⟩
  rw [Tryz.params3] at ht
  · obtain rfl : t = 9 := by simpa using Array.mem_of_getElem? ht
    exact (show Tryz.prog.wantsStandIn 9 = false by kernel_rfl)

theorem proved : Rows.MessageRequestsCardSaid :=
  Claim7.holds_tied_plain_at .later [] _ _ _ _ said (fun _ h => by cases h) (by kernel_rfl) (fun _ h => by cases h) messageRequests_row_tie rfl ⟨rfl, rfl⟩ (by kernel_rfl) rfl plain (by kernel_rfl)
#print axioms proved
end Go.Proofs.YtjcomlklmfeimaaGreatDoor.messageRequests
