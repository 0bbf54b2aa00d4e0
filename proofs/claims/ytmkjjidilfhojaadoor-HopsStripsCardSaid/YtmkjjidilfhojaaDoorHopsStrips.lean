/-
  The law HopsStrips (depotlaw16) returns true for every list of fields and every name, and leaves what it was given as it was. No condition but that the table of names holds what the program lays.
-/
import Derived.Test.YtmkjjidilfhojaaDoorRows
import Derived.WalkKit
import Derived.ProofKit
import Derived.OpenShut
import Derived.ShutString
import Derived.ChangeOld
import Derived.Below
import Derived.Test.YtmkjjidilfhojaaDoorMrgA
import Derived.Test.YtmkjjidilfhojaaDoorMrgB
import Derived.Test.YtmkjjidilfhojaaDoorMrgC
import Derived.Test.YtmkjjidilfhojaaDoorMrgD
import Derived.Test.YtmkjjidilfhojaaDoorMrgE
import Derived.Test.YtmkjjidilfhojaaDoorMrgF
import Derived.Test.YtmkjjidilfhojaaDoorMrgG
import Derived.Test.YtmkjjidilfhojaaDoorMrgH
import Derived.Test.YtmkjjidilfhojaaDoorMrgI
import Derived.Test.YtmkjjidilfhojaaDoorMrgJ
import Derived.Test.YtmkjjidilfhojaaDoorMrgK
import Derived.Test.YtmkjjidilfhojaaDoorMrgL
import Derived.Test.YtmkjjidilfhojaaDoorMrgM
import Derived.Test.YtmkjjidilfhojaaDoorMrgN
import Derived.Test.YtmkjjidilfhojaaDoorMrgO
import Derived.Test.YtmkjjidilfhojaaDoorMrgP
import Derived.Test.YtmkjjidilfhojaaDoorMrgQ
import Derived.Test.YtmkjjidilfhojaaDoorMrgR
import Derived.Test.YtmkjjidilfhojaaDoorMrgS
import Derived.Test.YtmkjjidilfhojaaDoorMrgT
import Derived.Test.YtmkjjidilfhojaaDoorMrgU
import Derived.Test.YtmkjjidilfhojaaDoorMrgV
import Derived.Test.YtmkjjidilfhojaaDoorMrgW
import Derived.Test.YtmkjjidilfhojaaDoorMrgX
import Derived.Test.YtmkjjidilfhojaaDoorMrgY
import Derived.Test.YtmkjjidilfhojaaDoorMrgZ
import Derived.Test.YtmkjjidilfhojaaDoorMrgAA
import Derived.Test.YtmkjjidilfhojaaDoorMrgAB
import Derived.Test.YtmkjjidilfhojaaDoorMrgAC
import Derived.Test.YtmkjjidilfhojaaDoorMrgAD
import Derived.Test.YtmkjjidilfhojaaDoorMrgAE
import Derived.Test.YtmkjjidilfhojaaDoorMrgAF
import Derived.Test.YtmkjjidilfhojaaDoorMrgAG
import Derived.Test.YtmkjjidilfhojaaDoorMrgAH
import Derived.Test.YtmkjjidilfhojaaDoorMrgAI
import Derived.Test.YtmkjjidilfhojaaDoorMrgAJ
import Derived.Test.YtmkjjidilfhojaaDoorMrgAK
import Derived.Test.YtmkjjidilfhojaaDoorMrgAL
import Derived.Test.YtmkjjidilfhojaaDoorMrgAM
import Derived.Test.YtmkjjidilfhojaaDoorMrgAN
import Derived.Test.YtmkjjidilfhojaaDoorMrgAO
import Derived.Test.YtmkjjidilfhojaaDoorMrgAP
import Derived.Test.YtmkjjidilfhojaaDoorMrgAQ
import Derived.Test.YtmkjjidilfhojaaDoorMrgAR
import Derived.Test.YtmkjjidilfhojaaDoorMrgAS
import Derived.Test.YtmkjjidilfhojaaDoorMrgAT
import Derived.Test.YtmkjjidilfhojaaDoorCards
import Derived.Test.YtmkjjidilfhojaaDoorTie
import Derived.LaidMore
import Derived.Lib.LaidTab
import Derived.Stop.Joined
import Derived.Lay
namespace Go.Proofs.YtmkjjidilfhojaaDoor.hopsStrips
open Go.ChangeShapes Go.WideShapes Go.ChangeAt Go.RowKit
open Go.ChangeMaps (open_string shut_string)
set_option linter.unusedVariables false

theorem own : ownKnob Tryd.prog.godebug = none := by kernel_rfl
theorem laidOut : laidOutB Tryd.prog = true := by kernel_rfl

set_option maxHeartbeats 8000000 in
set_option maxRecDepth 100000 in
theorem walk (a0 : Option Addr) (len0 cap0 : Nat) (z0 : List Fd) (a1 : ByteArray) (w : World) (w0 : SlF w a0 len0 cap0 z0) (w1 : a1.size ≤ maxLen) (hL : laidMetH Tryd.prog Rows.hopsStripsRow.laid w) :
    Calls Tryd.prog 3 #[.slice a0 len0 cap0, .string a1] w fun e w' => e = .returned (.bool true) ∧ Below w.heap.size w w' := by
  have HT := Lib.hid (hopTabs hL)
  clear hL
  have CX := Lib.hid (fun W (hW : Below w.heap.size w W) => ex16_any W (HT.out.kept hW))
  have hlen := w0.len
  have K1 := Lib.hid (rf_few a0 len0 cap0 70 500 z0 w w0 (by omega))
  have K1 := Lib.hid (show Calls Tryd.prog 6 #[.slice a0 len0 cap0, .int .i64 70, .int .i64 500] w (fun e w' => e = .returned (.bool (fewB z0 70 500)) ∧ w = w') from K1.out)
  have hfy := fun h => few_yes (L := z0) (m := 70) (b := 500) h
  generalize fewB z0 70 500 = fb at *
  cases fb with
  | false =>
    go_enter Tryd.func3, Tryd.ntmps3
    go_wp2_with fail
    refine K1.out.mono ?_
    rintro e v1 ⟨rfl, rfl⟩
    go_wp2_with fail
    refine (CX.out _ (Below.refl _ _)).mono ?_
    rintro e v1 ⟨rfl, hb⟩
    go_wp2_with fail
    go_ret
    exact ⟨rfl, hb⟩
  | true =>
    by_cases hsz : (500 : Int) < (a1.size : Int)
    · go_enter Tryd.func3, Tryd.ntmps3
      go_wp2_with fail
      refine K1.out.mono ?_
      rintro e v1 ⟨rfl, rfl⟩
      go_wp2_with fail
      refine (CX.out _ (Below.refl _ _)).mono ?_
      rintro e v1 ⟨rfl, hb⟩
      go_wp2_with fail
      go_ret
      exact ⟨rfl, hb⟩
    · obtain ⟨g1, g2⟩ := hfy rfl
      have hz : ∀ x ∈ z0, x.2.size ≤ 10000 := fun x hx => by have := (g2 x hx).2; omega
      have hbd : ∀ x ∈ z0, Bd x := fun x hx => by have := g2 x hx; exact ⟨by omega, by omega⟩
      have hln : len0 ≤ 1000 := by omega
      have hsl := stp_len z0
      have hsf := stp_sz w0.sz
      have hnn := (nom_sz (L := z0) (by omega) hz).1
      have C1 := Lib.hid (fun W (hW : Below w.heap.size w W) => stp_any a0 len0 cap0 z0 W (w0.below hW) hln hz hbd (HT.out.kept hW))
      have C2 := Lib.hid (fun W (hW : Below w.heap.size w W) => r_strip a0 len0 cap0 z0 W (w0.below hW) hln hz)
      have C3 := Lib.hid (fun W (hW : Below w.heap.size w W) => nom_any a0 len0 cap0 z0 W (w0.below hW) hln hz hbd)
      have C4 := Lib.hid (fun W (hW : Below w.heap.size w W) => r_nom a0 len0 cap0 z0 W (w0.below hW) hln hz)
      have C5 := Lib.hid (fun W (hW : Below w.heap.size w W) => hop_any a1 w1 W (HT.out.kept hW))
      have C6 := Lib.hid (fun W => r_hop a1 w1 W)
      generalize hX : stpL z0 = X at *
      generalize hY : nomL z0 = Y at *
      generalize hopB a1 = hb at *
      have CE := Lib.hid (fun A B c d W (h1 : SlF W A X.length c X) (h2 : SlF W B X.length d X) => rf_equal A B X.length c X.length d X X W h1 h2 (by omega))
      have CS := Lib.hid (fun A B c d W (h1 : SlS W A Y.length c Y) (h2 : SlS W B Y.length d Y) => r_sames A B Y.length c Y.length d Y Y W h1 h2 (by omega))
      have HE := Lib.hid (bthP_refl eqF eqF_refl X)
      rw [HE.out] at CE
      have HYY : (Y == Y) = true := by simp
      rw [HYY] at CS
      have hbb : (hb == hb) = true := by simp
      have HSF := Lib.hid hsf
      have HB : Hid (Below w.heap.size w w) := Below.refl _ _
      clear hfy g1 g2 hz hbd hln hsl hnn hX hY HE HYY hsf
      unfold IsFs Vals at *
      go_enter Tryd.func3, Tryd.ntmps3
      go_wp2_with fail
      refine K1.out.mono ?_
      rintro e v1 ⟨rfl, rfl⟩
      go_wp2_with fail
      refine (C1.out _ HB.out).mono ?_
      rintro e v1 ⟨A1, c1, rfl, hF, hb1⟩
      have HF := Lib.hid hF
      have HB := Lib.hid (below_then HB.out hb1)
      clear hF hb1
      go_wp2_with fail
      refine (C2.out _ HB.out).mono ?_
      rintro e v2 ⟨v, rfl, ho, hb1⟩
      obtain ⟨A2, c2, rfl, hG⟩ := ho.slf HSF.out
      have HG := Lib.hid hG
      have HF := Lib.hid (HF.out.below hb1)
      have HB := Lib.hid (below_then HB.out hb1)
      clear ho hG hb1
      go_wp2_with fail
      refine (CE.out _ _ _ _ _ HF.out HG.out).mono ?_
      rintro e v3 ⟨rfl, hb1⟩
      have HB := Lib.hid (below_then HB.out hb1)
      clear hb1 HF HG
      go_wp2_with fail
      refine (C3.out _ HB.out).mono ?_
      rintro e v4 ⟨A3, c3, rfl, hS, _, hb1⟩
      have HS := Lib.hid hS
      have HB := Lib.hid (below_then HB.out hb1)
      clear hS hb1
      go_wp2_with fail
      refine (C4.out _ HB.out).mono ?_
      rintro e v5 ⟨A4, c4, rfl, hS, _, hb1⟩
      have HT := Lib.hid hS
      have HS := Lib.hid (HS.out.below hb1)
      have HB := Lib.hid (below_then HB.out hb1)
      clear hS hb1
      go_wp2_with fail
      refine (CS.out _ _ _ _ _ HS.out HT.out).mono ?_
      rintro e v6 ⟨rfl, hb1⟩
      have HB := Lib.hid (below_then HB.out hb1)
      clear hb1 HS HT
      go_wp2_with fail
      refine (C5.out _ HB.out).mono ?_
      rintro e v7 ⟨rfl, hb1⟩
      have HB := Lib.hid (below_then HB.out hb1)
      clear hb1
      go_wp2_with fail
      refine (C6.out _).mono ?_
      rintro e v8 ⟨rfl, hb1⟩
      have HB := Lib.hid (below_then HB.out hb1)
      clear hb1
      go_wp2_with fail
      refine (CX.out _ HB.out).mono ?_
      rintro e v9 ⟨rfl, hb1⟩
      go_wp2_with fail
      go_ret
      exact ⟨rfl, below_then HB.out hb1⟩

theorem door_met (os : Os) (args : Array Value) : laidMetH Tryd.prog Rows.hopsStripsRow.laid ((World.laidAll Tryd.prog os Rows.hopsStripsRow.laid).forCall (fun _ _ => 0) ⟨#[], args, []⟩).memory := by
  rw [MakeChecks.laidMetH_plain _ _ _ (by kernel_rfl)]
  exact laidMet_laidAll _ (by kernel_rfl) (by kernel_rfl)

set_option maxRecDepth 100000 in
theorem lifted (os : Os) (started : os.Started) (H : Type) (enc : TypeId × Value → H) :
    ReturnsInHanded {} Tryd.checked os 3 .any (fun w args => (Rows.hopsStripsSpec.pre enc Tryd.prog Tryd.f3 [] false w args ∧ laidMetH Tryd.prog Rows.hopsStripsRow.laid w) ∧ sizedMet enc Tryd.prog Tryd.f3 (OpenSpec.ofChange Rows.hopsStripsSpec) false w args) (Rows.hopsStripsSpec.post enc Tryd.prog Tryd.f3 false true false false) := by
  refine returnsInHanded_of_change_and (C := Tryd.checked) (X := fun w _ => laidMetH Tryd.prog Rows.hopsStripsRow.laid w) (fun _ _ _ hh h => h.of_heap hh) own started (by kernel_rfl) Tryd.func3
    (ChangeSpec.witness_shaped (enc := enc) (C := Tryd.checked) (os := os) (X := fun w _ => laidMetH Tryd.prog Rows.hopsStripsRow.laid w) false (World.laidAll Tryd.prog os Rows.hopsStripsRow.laid) #[.slice none 0 0, .string ByteArray.empty] 8 rfl (World.shaped_of_ZipB (by kernel_rfl) (by kernel_rfl)) (by kernel_rfl) (by kernel_rfl) (by kernel_rfl) (door_met os _)) ?_
  intro W base args ds gs before hval0 hW _ _ hL _
  have hval : ∀ (j : Nat) t v, Tryd.f3.params[j]? = some t → args[j]? = some v → Value.okWide Tryd.prog W .any base t v := hval0
  have hW' := hW
  obtain ⟨p, q, hA0, hV, rfl, hfz, hnd⟩ := hW
  have hA : DataW.TrodAll enc Tryd.prog W 0 (fun _ => true) true Tryd.f3.params.toList args.toList ds p := hA0
  rw [Tryd.params3] at hA hval
  obtain ⟨v0, vs0, d0, ds0, p0, q0, hargs, rfl, rfl, h0, r0⟩ := trodAll_cons hA
  obtain ⟨v1, vs1, d1, ds1, p1, q1, rfl, rfl, rfl, h1, r1⟩ := trodAll_cons r0
  obtain ⟨rfl, rfl, rfl⟩ := trodAll_nil r1
  obtain rfl : args = #[v0, v1] := by cases args; simp_all
  obtain ⟨rfl, rfl⟩ := trodVars_none hV
  obtain ⟨a0, len0, cap0, rfl⟩ := okWide_slice Tryd.underlying22 (hval 0 22 v0 rfl rfl)
  have k0 := h0
  have lt0 : ∀ x ∈ p0, x.block < W.heap.size := by obtain ⟨m, hm⟩ := k0; exact DataW.trod_lt m _ _ _ hm
  obtain ⟨z0, w0⟩ := SlF.of_trod Tryd.underlying22 Tryd.underlying33 (by kernel_rfl) rfl rfl (by kernel_rfl) (by kernel_rfl) Tryd.underlying9 Tryd.underlying9 h0
  obtain ⟨a1, rfl, rfl, rfl, w1⟩ := open_string Tryd.underlying9 (hval 1 9 v1 rfl rfl) h1
  clear hA0 hval0
  refine (walk a0 len0 cap0 z0 a1 W w0 w1 hL).mono fun e W' ⟨he, bel⟩ => ?_
  subst he
  exact ⟨_, rfl, _, _, _, [], _, [], hW', trodAll_mk1 (shut_bool Tryd.underlying4 _), (trodAll_cons_mk (Below.trod laidOut (by kernel_rfl) (of_decide_eq_true (by kernel_rfl)) k0 bel lt0) (trodAll_cons_mk (shut_string Tryd.underlying9 w1) trodAll_mk0)), rfl, bel.frame _, fun h => by cases h⟩

theorem over : Rows.hopsStripsRow.holds Tryd.pinned (OpenSpec.ofChange Rows.hopsStripsSpec) :=
  OpenClaim.holds_of_wide 3 Tryd.f3 rfl rfl rfl rfl rfl rfl rfl ⟨rfl, rfl, rfl, rfl, rfl⟩ rfl rfl rfl rfl rfl (by kernel_rfl) Tryd.func3 (by kernel_rfl)
    (of_decide_eq_true (by kernel_rfl)) (by unfold Func.isWrapper; first | (rw [if_pos (by decide +kernel)]; kernel_rfl) | (rw [if_neg (by decide +kernel)]; exact ⟨rfl, rfl⟩))
    (fun os started H enc _ => lifted os started H enc)

theorem said : Rows.HopsStripsSaid :=
  over

theorem plain (f : FuncId) (fn : Func) (hf : Tryd.pinned.checked.prog.funcNamed "depot/depotlaw16.HopsStrips" = some f) (hfn : Tryd.pinned.checked.prog.funcs[f]? = some fn) :
    false = Tryd.pinned.checked.prog.looks [] ∧ ∀ (j : Nat) t, fn.params[j]? = some t → Tryd.pinned.checked.prog.wantsStandIn t = false := by
  obtain rfl : f = 3 := Option.some.inj ((show Tryd.prog.funcNamed "depot/depotlaw16.HopsStrips" = some 3 by kernel_rfl).symm.trans hf) |>.symm
  obtain rfl : fn = Tryd.f3 := (Option.some.inj (Tryd.func3.symm.trans hfn)).symm
  refine ⟨by kernel_rfl, fun j t ht => ?_⟩
  rw [Tryd.params3] at ht
  · have hm := Array.mem_of_getElem? ht
    simp only [List.mem_toArray, List.mem_cons, List.not_mem_nil, or_false] at hm
    have all : Tryd.pinned.checked.prog.wantsStandIn 9 = false ∧ Tryd.pinned.checked.prog.wantsStandIn 22 = false := ⟨by kernel_rfl, by kernel_rfl⟩
    rcases hm with rfl | rfl
    all_goals first | with_reducible exact all.1 | with_reducible exact all.2

theorem proved : Rows.HopsStripsCardSaid :=
  Claim7.holds_tied_plain_at .later [] _ _ _ _ said (fun _ h => by cases h) (by kernel_rfl) (fun _ h => by cases h) hopsStrips_row_tie rfl ⟨rfl, rfl⟩ (by kernel_rfl) rfl plain (by kernel_rfl)
#print axioms proved
end Go.Proofs.YtmkjjidilfhojaaDoor.hopsStrips
