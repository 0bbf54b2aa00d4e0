/-
  The law ChunkBack (depotlaw11) returns true for every body, size, text behind and cut, and leaves what it was given as it was. No condition.
-/
import Derived.Test.YtbbppkonjaijhaaDoorRows
import Derived.WalkKit
import Derived.ProofKit
import Derived.OpenShut
import Derived.ShutString
import Derived.ChangeOld
import Derived.Below
import Derived.Test.YtbbppkonjaijhaaDoorMrgA
import Derived.Test.YtbbppkonjaijhaaDoorMrgB
import Derived.Test.YtbbppkonjaijhaaDoorMrgC
import Derived.Test.YtbbppkonjaijhaaDoorMrgD
import Derived.Test.YtbbppkonjaijhaaDoorMrgE
import Derived.Test.YtbbppkonjaijhaaDoorMrgF
import Derived.Test.YtbbppkonjaijhaaDoorMrgG
import Derived.Test.YtbbppkonjaijhaaDoorMrgH
import Derived.Test.YtbbppkonjaijhaaDoorMrgI
import Derived.Test.YtbbppkonjaijhaaDoorMrgJ
import Derived.Test.YtbbppkonjaijhaaDoorMrgK
import Derived.Test.YtbbppkonjaijhaaDoorMrgL
import Derived.Test.YtbbppkonjaijhaaDoorMrgM
import Derived.Test.YtbbppkonjaijhaaDoorMrgN
import Derived.Test.YtbbppkonjaijhaaDoorMrgO
import Derived.Test.YtbbppkonjaijhaaDoorMrgP
import Derived.Test.YtbbppkonjaijhaaDoorMrgQ
import Derived.Test.YtbbppkonjaijhaaDoorMrgR
import Derived.Test.YtbbppkonjaijhaaDoorMrgS
import Derived.Test.YtbbppkonjaijhaaDoorMrgT
import Derived.Test.YtbbppkonjaijhaaDoorMrgU
import Derived.Test.YtbbppkonjaijhaaDoorMrgV
import Derived.Test.YtbbppkonjaijhaaDoorMrgW
import Derived.Test.YtbbppkonjaijhaaDoorMrgX
import Derived.Test.YtbbppkonjaijhaaDoorMrgY
import Derived.Test.YtbbppkonjaijhaaDoorMrgZ
import Derived.Test.YtbbppkonjaijhaaDoorMrgAA
import Derived.Test.YtbbppkonjaijhaaDoorMrgAB
import Derived.Test.YtbbppkonjaijhaaDoorCards
import Derived.Test.YtbbppkonjaijhaaDoorTie
import Derived.LaidMore
import Derived.Lib.LaidTab
import Derived.Stop.Joined
import Derived.Lay
namespace Go.Proofs.YtbbppkonjaijhaaDoor.chunkBack
open Go.ChangeShapes Go.WideShapes Go.ChangeAt Go.RowKit
open Go.ChangeMaps (open_string shut_string)
set_option linter.unusedVariables false

theorem own : ownKnob Tryd.prog.godebug = none := by kernel_rfl
theorem laidOut : laidOutB Tryd.prog = true := by kernel_rfl

set_option maxHeartbeats 8000000 in
set_option maxRecDepth 100000 in
theorem walk (a0 : ByteArray) (a1 : Int) (a2 : ByteArray) (a3 : Int) (w : World) (w0 : a0.size ≤ maxLen) (w1 : (Lit.int .i64 a1).wf = true) (w2 : a2.size ≤ maxLen) (w3 : (Lit.int .i64 a3).wf = true) (hL : laidMetH Tryd.prog Rows.chunkBackRow.laid w) (hsh : w.ShapedOpen Tryd.prog) :
    Calls Tryd.prog 5 #[.string a0, .int .i64 a1, .string a2, .int .i64 a3] w fun e w' => e = .returned (.bool true) ∧ Below w.heap.size w w' := by
  have HT := Lib.hid (chkTabs hL hsh)
  clear hL hsh
  have cx := fun W (hW : Below w.heap.size w W) => ex11_any W (HT.out.kept hW)
  have CX := Lib.hid cx
  clear cx
  by_cases h0 : (2000 : Int) < (a0.size : Int)
  · go_enter Tryd.func5, Tryd.ntmps5
    go_wp2_with fail
    refine (CX.out _ (Below.refl _ _)).mono ?_
    rintro e z1 ⟨rfl, hz1⟩
    go_wp2_with fail
    go_ret
    exact ⟨rfl, hz1⟩
  by_cases h2 : (2000 : Int) < (a2.size : Int)
  · go_enter Tryd.func5, Tryd.ntmps5
    go_wp2_with fail
    refine (CX.out _ (Below.refl _ _)).mono ?_
    rintro e z1 ⟨rfl, hz1⟩
    go_wp2_with fail
    go_ret
    exact ⟨rfl, hz1⟩
  have c1 := fun W (hW : Below w.heap.size w W) => encode_any a0 a1 W (HT.out.kept hW)
  by_cases hz : a1 < 1 ∨ 65536 < a1
  · obtain ⟨q1, q2⟩ := enc_arg (s := a0) hz
    rw [q1, q2] at c1
    have C1 := Lib.hid c1
    clear c1 q1 q2
    by_cases z0 : a1 < 1
    · clear hz
      go_enter Tryd.func5, Tryd.ntmps5
      go_wp2_with fail
      refine (C1.out _ (Below.refl _ _)).mono ?_
      rintro e v1 ⟨rfl, hb1⟩
      have HB1 := Lib.hid hb1
      clear hb1
      go_wp2_with fail
      refine (CX.out _ HB1.out).mono ?_
      rintro e z1 ⟨rfl, hz1⟩
      go_wp2_with fail
      go_ret
      exact ⟨rfl, below_then HB1.out hz1⟩
    · have z2 : 65536 < a1 := by omega
      clear hz
      go_enter Tryd.func5, Tryd.ntmps5
      go_wp2_with fail
      refine (C1.out _ (Below.refl _ _)).mono ?_
      rintro e v1 ⟨rfl, hb1⟩
      have HB1 := Lib.hid hb1
      clear hb1
      go_wp2_with fail
      refine (CX.out _ HB1.out).mono ?_
      rintro e z1 ⟨rfl, hz1⟩
      go_wp2_with fail
      go_ret
      exact ⟨rfl, below_then HB1.out hz1⟩
  · obtain ⟨q1, q2, q3, q4, q5⟩ := enc_back (s := a0) hz (by omega)
    obtain ⟨d1, d2, d3⟩ := q4 a2
    have hML : (100000 : Nat) ≤ maxLen := by decide
    have hsz : (encS a0 a1 ++ a2).size = (encS a0 a1).size + a2.size := ByteArray.size_append
    have c2 := fun W (hW : Below w.heap.size w W) => decode_any (encS a0 a1 ++ a2) W (by omega) (HT.out.kept hW)
    rw [d1, d2, d3] at c2
    rw [q1] at c1
    have c3 := fun (k : Nat) (hk : k < (encS a0 a1).size) W (hW : Below w.heap.size w W) => decode_any ((encS a0 a1).extract 0 k) W (by rw [ByteArray.size_extract]; omega) (HT.out.kept hW)
    have c3 : ∀ (k : Nat) (hk : k < (encS a0 a1).size) W, Below w.heap.size w W → Calls Tryd.prog 8 #[.string ((encS a0 a1).extract 0 k)] W fun e w' => e = .returned (.tuple #[.string ⟨#[]⟩, .int .i64 0, .int .i64 25]) ∧ Below W.heap.size W w' := fun k hk W hW => by
      obtain ⟨r1, r2, r3⟩ := q5 k hk
      have := c3 k hk W hW
      rw [r1, r2, r3] at this
      exact this
    generalize encS a0 a1 = A at *
    have hml : (A ++ a2).size ≤ maxLen := by omega
    have hz0 : ¬ a1 < 1 := by omega
    have hz2 : ¬ 65536 < a1 := by omega
    have C1 := Lib.hid c1
    have C2 := Lib.hid c2
    have C3 := Lib.hid c3
    clear c1 c2 c3 q4 q5 d1 d2 d3 hz
    by_cases k0 : a3 < 0
    · go_enter Tryd.func5, Tryd.ntmps5
      go_wp2_with fail
      refine (C1.out _ (Below.refl _ _)).mono ?_
      rintro e v1 ⟨rfl, hb1⟩
      have HB1 := Lib.hid hb1
      clear hb1
      go_wp2_with fail
      refine (C2.out _ HB1.out).mono ?_
      rintro e v2 ⟨rfl, hb2⟩
      have HB2 := Lib.hid (below_then HB1.out hb2)
      clear hb2
      go_wp2_with fail
      refine (CX.out _ HB2.out).mono ?_
      rintro e z1 ⟨rfl, hz1⟩
      go_wp2_with fail
      go_ret
      exact ⟨rfl, below_then HB2.out hz1⟩
    · by_cases k1 : (A.size : Int) ≤ a3
      · go_enter Tryd.func5, Tryd.ntmps5
        go_wp2_with fail
        refine (C1.out _ (Below.refl _ _)).mono ?_
        rintro e v1 ⟨rfl, hb1⟩
        have HB1 := Lib.hid hb1
        clear hb1
        go_wp2_with fail
        refine (C2.out _ HB1.out).mono ?_
        rintro e v2 ⟨rfl, hb2⟩
        have HB2 := Lib.hid (below_then HB1.out hb2)
        clear hb2
        go_wp2_with fail
        refine (CX.out _ HB2.out).mono ?_
        rintro e z1 ⟨rfl, hz1⟩
        go_wp2_with fail
        go_ret
        exact ⟨rfl, below_then HB2.out hz1⟩
      · obtain ⟨k, rfl⟩ : ∃ k : Nat, a3 = k := ⟨a3.toNat, by omega⟩
        have hk : k < A.size := by omega
        have k2 : (0 : Int) ≤ (k : Int) := by omega
        have k3 : (k : Int) ≤ (A.size : Int) := by omega
        have k4 : (k : Int) < (A.size : Int) := by omega
        go_enter Tryd.func5, Tryd.ntmps5
        go_wp2_with fail
        refine (C1.out _ (Below.refl _ _)).mono ?_
        rintro e v1 ⟨rfl, hb1⟩
        have HB1 := Lib.hid hb1
        clear hb1
        go_wp2_with fail
        refine (C2.out _ HB1.out).mono ?_
        rintro e v2 ⟨rfl, hb2⟩
        have HB2 := Lib.hid (below_then HB1.out hb2)
        clear hb2
        go_wp2_with fail
        refine (C3.out k hk _ HB2.out).mono ?_
        rintro e v3 ⟨rfl, hb3⟩
        have HB3 := Lib.hid (below_then HB2.out hb3)
        clear hb3
        go_wp2_with fail
        refine (CX.out _ HB3.out).mono ?_
        rintro e z1 ⟨rfl, hz1⟩
        go_wp2_with fail
        go_ret
        exact ⟨rfl, below_then HB3.out hz1⟩

theorem door_met (os : Os) (args : Array Value) : laidMetH Tryd.prog Rows.chunkBackRow.laid ((World.laidAll Tryd.prog os Rows.chunkBackRow.laid).forCall (fun _ _ => 0) ⟨#[], args, []⟩).memory := by
  rw [MakeChecks.laidMetH_plain _ _ _ (by kernel_rfl)]
  exact laidMet_laidAll _ (by kernel_rfl) (by kernel_rfl)

set_option maxRecDepth 100000 in
theorem lifted (os : Os) (started : os.Started) (H : Type) (enc : TypeId × Value → H) :
    ReturnsInHanded {} Tryd.checked os 5 .any (fun w args => (Rows.chunkBackSpec.pre enc Tryd.prog Tryd.f5 [] false w args ∧ laidMetH Tryd.prog Rows.chunkBackRow.laid w) ∧ sizedMet enc Tryd.prog Tryd.f5 (OpenSpec.ofChange Rows.chunkBackSpec) false w args) (Rows.chunkBackSpec.post enc Tryd.prog Tryd.f5 false true false false) := by
  refine returns_and_shaped (C := Tryd.checked) (X := fun w _ => laidMetH Tryd.prog Rows.chunkBackRow.laid w) (fun _ _ _ hh h => h.of_heap hh) own started (by kernel_rfl) Tryd.func5
    (ChangeSpec.witness_shaped (enc := enc) (C := Tryd.checked) (os := os) (X := fun w _ => laidMetH Tryd.prog Rows.chunkBackRow.laid w) false (World.laidAll Tryd.prog os Rows.chunkBackRow.laid) #[.string ByteArray.empty, .int .i64 0, .string ByteArray.empty, .int .i64 0] 8 rfl (World.shaped_of_ZipB (by kernel_rfl) (by kernel_rfl)) (by kernel_rfl) (by kernel_rfl) (by kernel_rfl) (door_met os _)) ?_
  intro W base args ds gs before hval0 hW hL hsh
  have hval : ∀ (j : Nat) t v, Tryd.f5.params[j]? = some t → args[j]? = some v → Value.okWide Tryd.prog W .any base t v := hval0
  have hW' := hW
  obtain ⟨p, q, hA0, hV, rfl, hfz, hnd⟩ := hW
  have hA : DataW.TrodAll enc Tryd.prog W 0 (fun _ => true) true Tryd.f5.params.toList args.toList ds p := hA0
  rw [Tryd.params5] at hA hval
  obtain ⟨v0, vs0, d0, ds0, p0, q0, hargs, rfl, rfl, h0, r0⟩ := trodAll_cons hA
  obtain ⟨v1, vs1, d1, ds1, p1, q1, rfl, rfl, rfl, h1, r1⟩ := trodAll_cons r0
  obtain ⟨v2, vs2, d2, ds2, p2, q2, rfl, rfl, rfl, h2, r2⟩ := trodAll_cons r1
  obtain ⟨v3, vs3, d3, ds3, p3, q3, rfl, rfl, rfl, h3, r3⟩ := trodAll_cons r2
  obtain ⟨rfl, rfl, rfl⟩ := trodAll_nil r3
  obtain rfl : args = #[v0, v1, v2, v3] := by cases args; simp_all
  obtain ⟨rfl, rfl⟩ := trodVars_none hV
  obtain ⟨a0, rfl, rfl, rfl, w0⟩ := open_string Tryd.underlying9 (hval 0 9 v0 rfl rfl) h0
  obtain ⟨a1, rfl, rfl, rfl, w1⟩ := open_int Tryd.underlying3 (hval 1 3 v1 rfl rfl) h1
  obtain ⟨a2, rfl, rfl, rfl, w2⟩ := open_string Tryd.underlying9 (hval 2 9 v2 rfl rfl) h2
  obtain ⟨a3, rfl, rfl, rfl, w3⟩ := open_int Tryd.underlying3 (hval 3 3 v3 rfl rfl) h3
  clear hA0 hval0
  refine (walk a0 a1 a2 a3 W w0 w1 w2 w3 hL hsh).mono fun e W' ⟨he, bel⟩ => ?_
  subst he
  exact ⟨_, rfl, _, _, _, [], _, [], hW', trodAll_mk1 (shut_bool Tryd.underlying4 _), (trodAll_cons_mk (shut_string Tryd.underlying9 w0) (trodAll_cons_mk (shut_int Tryd.underlying3 w1) (trodAll_cons_mk (shut_string Tryd.underlying9 w2) (trodAll_cons_mk (shut_int Tryd.underlying3 w3) trodAll_mk0)))), rfl, bel.frame _, fun h => by cases h⟩

theorem over : Rows.chunkBackRow.holds Tryd.pinned (OpenSpec.ofChange Rows.chunkBackSpec) :=
  OpenClaim.holds_of_wide 5 Tryd.f5 rfl rfl rfl rfl rfl rfl rfl ⟨rfl, rfl, rfl, rfl, rfl⟩ rfl rfl rfl rfl rfl (by kernel_rfl) Tryd.func5 (by kernel_rfl)
    (of_decide_eq_true (by kernel_rfl)) (by unfold Func.isWrapper; first | (rw [if_pos (by decide +kernel)]; kernel_rfl) | (rw [if_neg (by decide +kernel)]; exact ⟨rfl, rfl⟩))
    (fun os started H enc _ => lifted os started H enc)

theorem said : Rows.ChunkBackSaid :=
  over

theorem plain (f : FuncId) (fn : Func) (hf : Tryd.pinned.checked.prog.funcNamed "depot/depotlaw11.ChunkBack" = some f) (hfn : Tryd.pinned.checked.prog.funcs[f]? = some fn) :
    false = Tryd.pinned.checked.prog.looks [] ∧ ∀ (j : Nat) t, fn.params[j]? = some t → Tryd.pinned.checked.prog.wantsStandIn t = false := by
  obtain rfl : f = 5 := Option.some.inj ((show Tryd.prog.funcNamed "depot/depotlaw11.ChunkBack" = some 5 by kernel_rfl).symm.trans hf) |>.symm
  obtain rfl : fn = Tryd.f5 := (Option.some.inj (Tryd.func5.symm.trans hfn)).symm
  refine ⟨by kernel_rfl, fun j t ht => ?_⟩
  rw [Tryd.params5] at ht
  · have hm := Array.mem_of_getElem? ht
    simp only [List.mem_toArray, List.mem_cons, List.not_mem_nil, or_false] at hm
    have all : Tryd.pinned.checked.prog.wantsStandIn 3 = false ∧ Tryd.pinned.checked.prog.wantsStandIn 9 = false := ⟨by kernel_rfl, by kernel_rfl⟩
    rcases hm with rfl | rfl | rfl | rfl
    all_goals first | with_reducible exact all.1 | with_reducible exact all.2

theorem proved : Rows.ChunkBackCardSaid :=
  Claim7.holds_tied_plain_at .later [] _ _ _ _ said (fun _ h => by cases h) (by kernel_rfl) (fun _ h => by cases h) chunkBack_row_tie rfl ⟨rfl, rfl⟩ (by kernel_rfl) rfl plain (by kernel_rfl)
#print axioms proved
end Go.Proofs.YtbbppkonjaijhaaDoor.chunkBack
