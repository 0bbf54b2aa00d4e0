/-
  The law ChunkAgain (depotlaw11) returns true for every text and text behind it, and leaves what it was given as it was. No condition.
-/
import Derived.Test.YtbbppkonjaijhaaDoorRows
import Derived.WalkKit
import Derived.ProofKit
import Derived.OpenShut
import Derived.ShutString
import Derived.ChangeOld
import Derived.Below
import Derived.Test.YtbbppkonjaijhaaDoorMrgA
import Derived.Test.YtbbppkonjaijhaaDoorMrgB
import Derived.Test.YtbbppkonjaijhaaDoorMrgC
import Derived.Test.YtbbppkonjaijhaaDoorMrgD
import Derived.Test.YtbbppkonjaijhaaDoorMrgE
import Derived.Test.YtbbppkonjaijhaaDoorMrgF
import Derived.Test.YtbbppkonjaijhaaDoorMrgG
import Derived.Test.YtbbppkonjaijhaaDoorMrgH
import Derived.Test.YtbbppkonjaijhaaDoorMrgI
import Derived.Test.YtbbppkonjaijhaaDoorMrgJ
import Derived.Test.YtbbppkonjaijhaaDoorMrgK
import Derived.Test.YtbbppkonjaijhaaDoorMrgL
import Derived.Test.YtbbppkonjaijhaaDoorMrgM
import Derived.Test.YtbbppkonjaijhaaDoorMrgN
import Derived.Test.YtbbppkonjaijhaaDoorMrgO
import Derived.Test.YtbbppkonjaijhaaDoorMrgP
import Derived.Test.YtbbppkonjaijhaaDoorMrgQ
import Derived.Test.YtbbppkonjaijhaaDoorMrgR
import Derived.Test.YtbbppkonjaijhaaDoorMrgS
import Derived.Test.YtbbppkonjaijhaaDoorMrgT
import Derived.Test.YtbbppkonjaijhaaDoorMrgU
import Derived.Test.YtbbppkonjaijhaaDoorMrgV
import Derived.Test.YtbbppkonjaijhaaDoorMrgW
import Derived.Test.YtbbppkonjaijhaaDoorMrgX
import Derived.Test.YtbbppkonjaijhaaDoorMrgY
import Derived.Test.YtbbppkonjaijhaaDoorMrgZ
import Derived.Test.YtbbppkonjaijhaaDoorMrgAA
import Derived.Test.YtbbppkonjaijhaaDoorMrgAB
import Derived.Test.YtbbppkonjaijhaaDoorCards
import Derived.Test.YtbbppkonjaijhaaDoorTie
import Derived.LaidMore
import Derived.Lib.LaidTab
import Derived.Stop.Joined
import Derived.Lay
namespace Go.Proofs.YtbbppkonjaijhaaDoor.chunkAgain
open Go.ChangeShapes Go.WideShapes Go.ChangeAt Go.RowKit
open Go.ChangeMaps (open_string shut_string)
set_option linter.unusedVariables false

theorem own : ownKnob Tryd.prog.godebug = none := by kernel_rfl
theorem laidOut : laidOutB Tryd.prog = true := by kernel_rfl

set_option maxHeartbeats 8000000 in
set_option maxRecDepth 100000 in
theorem walk (a0 : ByteArray) (a1 : ByteArray) (w : World) (w0 : a0.size ≤ maxLen) (w1 : a1.size ≤ maxLen) (hL : laidMetH Tryd.prog Rows.chunkAgainRow.laid w) (hsh : w.ShapedOpen Tryd.prog) :
    Calls Tryd.prog 6 #[.string a0, .string a1] w fun e w' => e = .returned (.bool true) ∧ Below w.heap.size w w' := by
  have HT := Lib.hid (chkTabs hL hsh)
  clear hL hsh
  have cx := fun W (hW : Below w.heap.size w W) => ex11_any W (HT.out.kept hW)
  have CX := Lib.hid cx
  clear cx
  by_cases h0 : (3000 : Int) < (a0.size : Int)
  · go_enter Tryd.func6, Tryd.ntmps6
    go_wp2_with fail
    refine (CX.out _ (Below.refl _ _)).mono ?_
    rintro e z1 ⟨rfl, hz1⟩
    go_wp2_with fail
    go_ret
    exact ⟨rfl, hz1⟩
  by_cases h2 : (3000 : Int) < (a1.size : Int)
  · go_enter Tryd.func6, Tryd.ntmps6
    go_wp2_with fail
    refine (CX.out _ (Below.refl _ _)).mono ?_
    rintro e z1 ⟨rfl, hz1⟩
    go_wp2_with fail
    go_ret
    exact ⟨rfl, hz1⟩
  have c1 := fun W (hW : Below w.heap.size w W) => decode_any a0 W (by omega) (HT.out.kept hW)
  by_cases hE : decE a0 = 0
  · obtain ⟨k, k1, k2, k3, k4, k5⟩ := dec_again hE
    obtain ⟨r1, r2, r3⟩ := k5 a1
    have hML : (100000 : Nat) ≤ maxLen := by decide
    have hxs : (a0.extract 0 k).size = k := by rw [ByteArray.size_extract]; omega
    have hsz : (a0.extract 0 k ++ a1).size = k + a1.size := by rw [ByteArray.size_append, hxs]
    have c2 := fun W (hW : Below w.heap.size w W) => decode_any (a0.extract 0 k ++ a1) W (by omega) (HT.out.kept hW)
    rw [r1, r2, r3] at c2
    rw [hE, k1] at c1
    obtain ⟨q1, q2, q3, q4, q5⟩ := enc_back (s := decB a0) (z := 7) (by decide) (by omega)
    have c3 := fun W (hW : Below w.heap.size w W) => encode_any (decB a0) 7 W (HT.out.kept hW)
    rw [q1] at c3
    have hem : encS (decB a0) 7 ++ (⟨#[]⟩ : ByteArray) = encS (decB a0) 7 := by
      have : (encS (decB a0) 7 ++ (⟨#[]⟩ : ByteArray)).data.toList = (encS (decB a0) 7).data.toList := by rw [append_list]; simp
      rw [mkS_eq this]; exact (mkS_eq rfl).symm
    obtain ⟨d1, d2, d3⟩ := q4 ⟨#[]⟩
    rw [hem] at d1 d2 d3
    have c4 := fun W (hW : Below w.heap.size w W) => decode_any (encS (decB a0) 7) W (by omega) (HT.out.kept hW)
    rw [d1, d2, d3] at c4
    generalize encS (decB a0) 7 = A at *
    generalize decB a0 = B at *
    have hml : (a0.extract 0 k ++ a1).size ≤ maxLen := by omega
    have i1 : ¬ (k : Int) < 5 := by omega
    have i2 : ¬ (a0.size : Int) < (k : Int) := by omega
    have i3 : ¬ (k : Int) < (B.size : Int) := by omega
    have i4 : (0 : Int) ≤ (k : Int) := by omega
    have i5 : (k : Int) ≤ (a0.size : Int) := by omega
    have C1 := Lib.hid c1
    have C2 := Lib.hid c2
    have C3 := Lib.hid c3
    have C4 := Lib.hid c4
    clear c1 c2 c3 c4 q4 q5 d1 d2 d3 r1 r2 r3 k5 k1 hE hem
    go_enter Tryd.func6, Tryd.ntmps6
    go_wp2_with fail
    refine (C1.out _ (Below.refl _ _)).mono ?_
    rintro e v1 ⟨rfl, hb1⟩
    have HB1 := Lib.hid hb1
    clear hb1
    go_wp2_with fail
    refine (C2.out _ HB1.out).mono ?_
    rintro e v2 ⟨rfl, hb2⟩
    have HB2 := Lib.hid (below_then HB1.out hb2)
    clear hb2
    go_wp2_with fail
    refine (C3.out _ HB2.out).mono ?_
    rintro e v3 ⟨rfl, hb3⟩
    have HB3 := Lib.hid (below_then HB2.out hb3)
    clear hb3
    go_wp2_with fail
    refine (C4.out _ HB3.out).mono ?_
    rintro e v4 ⟨rfl, hb4⟩
    have HB4 := Lib.hid (below_then HB3.out hb4)
    clear hb4
    go_wp2_with fail
    refine (CX.out _ HB4.out).mono ?_
    rintro e z1 ⟨rfl, hz1⟩
    go_wp2_with fail
    go_ret
    exact ⟨rfl, below_then HB4.out hz1⟩
  · obtain ⟨r1, r2, r3⟩ := dec_bad (s := a0) (c := decE a0) (x := (decD a0).2.1) (y := (decD a0).2.2) rfl hE
    rw [r1, r2] at c1
    rcases decE_code a0 with g | g | g
    · exact absurd g hE
    · rw [g] at c1
      have C1 := Lib.hid c1
      clear c1 r1 r2 r3 hE g
      go_enter Tryd.func6, Tryd.ntmps6
      go_wp2_with fail
      refine (C1.out _ (Below.refl _ _)).mono ?_
      rintro e v1 ⟨rfl, hb1⟩
      have HB1 := Lib.hid hb1
      clear hb1
      go_wp2_with fail
      refine (CX.out _ HB1.out).mono ?_
      rintro e z1 ⟨rfl, hz1⟩
      go_wp2_with fail
      go_ret
      exact ⟨rfl, below_then HB1.out hz1⟩
    · rw [g] at c1
      have C1 := Lib.hid c1
      clear c1 r1 r2 r3 hE g
      go_enter Tryd.func6, Tryd.ntmps6
      go_wp2_with fail
      refine (C1.out _ (Below.refl _ _)).mono ?_
      rintro e v1 ⟨rfl, hb1⟩
      have HB1 := Lib.hid hb1
      clear hb1
      go_wp2_with fail
      refine (CX.out _ HB1.out).mono ?_
      rintro e z1 ⟨rfl, hz1⟩
      go_wp2_with fail
      go_ret
      exact ⟨rfl, below_then HB1.out hz1⟩

theorem door_met (os : Os) (args : Array Value) : laidMetH Tryd.prog Rows.chunkAgainRow.laid ((World.laidAll Tryd.prog os Rows.chunkAgainRow.laid).forCall (fun _ _ => 0) ⟨#[], args, []⟩).memory := by
  rw [MakeChecks.laidMetH_plain _ _ _ (by kernel_rfl)]
  exact laidMet_laidAll _ (by kernel_rfl) (by kernel_rfl)

set_option maxRecDepth 100000 in
theorem lifted (os : Os) (started : os.Started) (H : Type) (enc : TypeId × Value → H) :
    ReturnsInHanded {} Tryd.checked os 6 .any (fun w args => (Rows.chunkAgainSpec.pre enc Tryd.prog Tryd.f6 [] false w args ∧ laidMetH Tryd.prog Rows.chunkAgainRow.laid w) ∧ sizedMet enc Tryd.prog Tryd.f6 (OpenSpec.ofChange Rows.chunkAgainSpec) false w args) (Rows.chunkAgainSpec.post enc Tryd.prog Tryd.f6 false true false false) := by
  refine returns_and_shaped (C := Tryd.checked) (X := fun w _ => laidMetH Tryd.prog Rows.chunkAgainRow.laid w) (fun _ _ _ hh h => h.of_heap hh) own started (by kernel_rfl) Tryd.func6
    (ChangeSpec.witness_shaped (enc := enc) (C := Tryd.checked) (os := os) (X := fun w _ => laidMetH Tryd.prog Rows.chunkAgainRow.laid w) false (World.laidAll Tryd.prog os Rows.chunkAgainRow.laid) #[.string ByteArray.empty, .string ByteArray.empty] 8 rfl (World.shaped_of_ZipB (by kernel_rfl) (by kernel_rfl)) (by kernel_rfl) (by kernel_rfl) (by kernel_rfl) (door_met os _)) ?_
  intro W base args ds gs before hval0 hW hL hsh
  have hval : ∀ (j : Nat) t v, Tryd.f6.params[j]? = some t → args[j]? = some v → Value.okWide Tryd.prog W .any base t v := hval0
  have hW' := hW
  obtain ⟨p, q, hA0, hV, rfl, hfz, hnd⟩ := hW
  have hA : DataW.TrodAll enc Tryd.prog W 0 (fun _ => true) true Tryd.f6.params.toList args.toList ds p := hA0
  rw [Tryd.params6] at hA hval
  obtain ⟨v0, vs0, d0, ds0, p0, q0, hargs, rfl, rfl, h0, r0⟩ := trodAll_cons hA
  obtain ⟨v1, vs1, d1, ds1, p1, q1, rfl, rfl, rfl, h1, r1⟩ := trodAll_cons r0
  obtain ⟨rfl, rfl, rfl⟩ := trodAll_nil r1
  obtain rfl : args = #[v0, v1] := by cases args; simp_all
  obtain ⟨rfl, rfl⟩ := trodVars_none hV
  obtain ⟨a0, rfl, rfl, rfl, w0⟩ := open_string Tryd.underlying9 (hval 0 9 v0 rfl rfl) h0
  obtain ⟨a1, rfl, rfl, rfl, w1⟩ := open_string Tryd.underlying9 (hval 1 9 v1 rfl rfl) h1
  clear hA0 hval0
  refine (walk a0 a1 W w0 w1 hL hsh).mono fun e W' ⟨he, bel⟩ => ?_
  subst he
  exact ⟨_, rfl, _, _, _, [], _, [], hW', trodAll_mk1 (shut_bool Tryd.underlying4 _), (trodAll_cons_mk (shut_string Tryd.underlying9 w0) (trodAll_cons_mk (shut_string Tryd.underlying9 w1) trodAll_mk0)), rfl, bel.frame _, fun h => by cases h⟩

theorem over : Rows.chunkAgainRow.holds Tryd.pinned (OpenSpec.ofChange Rows.chunkAgainSpec) :=
  OpenClaim.holds_of_wide 6 Tryd.f6 rfl rfl rfl rfl rfl rfl rfl ⟨rfl, rfl, rfl, rfl, rfl⟩ rfl rfl rfl rfl rfl (by kernel_rfl) Tryd.func6 (by kernel_rfl)
    (of_decide_eq_true (by kernel_rfl)) (by unfold Func.isWrapper; first | (rw [if_pos (by decide +kernel)]; kernel_rfl) | (rw [if_neg (by decide +kernel)]; exact ⟨rfl, rfl⟩))
    (fun os started H enc _ => lifted os started H enc)

theorem said : Rows.ChunkAgainSaid :=
  over

theorem plain (f : FuncId) (fn : Func) (hf : Tryd.pinned.checked.prog.funcNamed "depot/depotlaw11.ChunkAgain" = some f) (hfn : Tryd.pinned.checked.prog.funcs[f]? = some fn) :
    false = Tryd.pinned.checked.prog.looks [] ∧ ∀ (j : Nat) t, fn.params[j]? = some t → Tryd.pinned.checked.prog.wantsStandIn t = false := by
  obtain rfl : f = 6 := Option.some.inj ((show Tryd.prog.funcNamed "depot/depotlaw11.ChunkAgain" = some 6 by kernel_rfl).symm.trans hf) |>.symm
  obtain rfl : fn = Tryd.f6 := (Option.some.inj (Tryd.func6.symm.trans hfn)).symm
  refine ⟨by kernel_rfl, fun j t ht => ?_⟩
  rw [Tryd.params6] at ht
  · obtain rfl : t = 9 := by simpa using Array.mem_of_getElem? ht
    exact (show Tryd.prog.wantsStandIn 9 = false by kernel_rfl)

theorem proved : Rows.ChunkAgainCardSaid :=
  Claim7.holds_tied_plain_at .later [] _ _ _ _ said (fun _ h => by cases h) (by kernel_rfl) (fun _ h => by cases h) chunkAgain_row_tie rfl ⟨rfl, rfl⟩ (by kernel_rfl) rfl plain (by kernel_rfl)
#print axioms proved
end Go.Proofs.YtbbppkonjaijhaaDoor.chunkAgain
