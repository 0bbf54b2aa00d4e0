/-
  The law DecimalHeld returns true for every three numbers and leaves what it was given as it was, tied to the program's own text: the library's three tables start as their initialisers lay them.
-/
import Derived.Test.YtecfcaigohilkaaDoorRows
import Derived.WalkKit
import Derived.ProofKit
import Derived.OpenShut
import Derived.ShutString
import Derived.Test.YtecfcaigohilkaaDoorDecEx
import Derived.Test.YtecfcaigohilkaaDoorDecLd
import Derived.Below
import Derived.ChangeOld
import Derived.Test.YtecfcaigohilkaaDoorCards
import Derived.Test.YtecfcaigohilkaaDoorTie
import Derived.LaidMore
import Derived.Lib.LaidTab
import Derived.Stop.Joined
namespace Go.Proofs.YtecfcaigohilkaaDoor.decimalHeld
open Go.ChangeShapes Go.WideShapes Go.ChangeAt Go.RowKit
open Go.ChangeMaps (open_string shut_string)
set_option linter.unusedVariables false      -- a walk need not use every 'w<i>' (that an integer argument fits its kind)

theorem own : ownKnob Tryd.prog.godebug = none := by kernel_rfl

set_option maxHeartbeats 8000000 in
set_option maxRecDepth 100000 in
theorem walk (a0 : Int) (a1 : Int) (a2 : Int) (w0 : (Lit.int .i64 a0).wf = true) (w1 : (Lit.int .i64 a1).wf = true) (w2 : (Lit.int .i64 a2).wf = true) (w : World) (hL : laidMetH Tryd.prog Rows.decimalHeldRow.laid w) :
    Calls Tryd.prog 7 #[.int .i64 a0, .int .i64 a1, .int .i64 a2] w fun e w' => e = .returned (.bool true) ∧ Below w.heap.size w w' := by
  have HT := Lib.hid (decTabs hL)
  clear hL
  have hb := Below.refl w.heap.size w
  clear w0 w1 w2
  obtain ⟨n0, n1⟩ := addI_bd a0 a1
  have C1 := Lib.hid (addI_comm a1 a0)
  have A1 := Lib.hid (addI_assoc a0 a1 a2)
  obtain ⟨n, hn⟩ : ∃ n, addI a0 a1 = n := ⟨_, rfl⟩
  have N1 := Lib.hid hn
  rw [hn] at n0 n1
  by_cases hle : a1 ≤ a2
  · obtain ⟨r, hr⟩ : ∃ r, addI a0 a2 = r := ⟨_, rfl⟩
    have hm : n ≤ r := by rw [← hn, ← hr]; exact addI_mono a0 a1 a2 hle
    have R1 := Lib.hid hr
    clear hr
    by_cases hgt : a0 > a1
    · skip
      by_cases ha : a0 < 0
      · clear hn
        go_enter Tryd.func7, Tryd.ntmps7
        go_wp2_with fail
        refine (add_any a0 a1 _).mono ?_
        rintro e w2 ⟨he, hb2⟩
        have hb := below_then hb hb2
        clear hb2
        rw [N1.out] at he
        subst he
        go_wp2_with fail
        refine (add_any a1 a0 _).mono ?_
        rintro e w3 ⟨he, hb3⟩
        have hb := below_then hb hb3
        clear hb3
        rw [C1.out, N1.out] at he
        subst he
        go_wp2_with fail
        refine (add_any n a2 _).mono ?_
        rintro e w4 ⟨he, hb4⟩
        have hb := below_then hb hb4
        clear hb4
        subst he
        go_wp2_with fail
        refine (add_any a1 a2 _).mono ?_
        rintro e w5 ⟨he, hb5⟩
        have hb := below_then hb hb5
        clear hb5
        subst he
        go_wp2_with fail
        refine (add_any a0 _ _).mono ?_
        rintro e w6 ⟨he, hb6⟩
        have hb := below_then hb hb6
        clear hb6
        rw [← A1.out, N1.out] at he
        subst he
        go_wp2_with fail
        refine (add_any a0 a1 _).mono ?_
        rintro e w7 ⟨he, hb7⟩
        have hb := below_then hb hb7
        clear hb7
        rw [N1.out] at he
        subst he
        go_wp2_with fail
        refine (add_any a0 a2 _).mono ?_
        rintro e w8 ⟨he, hb8⟩
        have hb := below_then hb hb8
        clear hb8
        rw [R1.out] at he
        subst he
        go_wp2_with fail
        refine (ex_any _ (HT.out.kept hb)).mono ?_
        rintro e w9 ⟨he, hb9⟩
        have hb := below_then hb hb9
        clear hb9
        subst he
        go_wp2_with fail
        go_ret
        exact ⟨rfl, hb⟩
      · by_cases hb1 : a1 < 0
        · clear hn
          go_enter Tryd.func7, Tryd.ntmps7
          go_wp2_with fail
          refine (add_any a0 a1 _).mono ?_
          rintro e w2 ⟨he, hb2⟩
          have hb := below_then hb hb2
          clear hb2
          rw [N1.out] at he
          subst he
          go_wp2_with fail
          refine (add_any a1 a0 _).mono ?_
          rintro e w3 ⟨he, hb3⟩
          have hb := below_then hb hb3
          clear hb3
          rw [C1.out, N1.out] at he
          subst he
          go_wp2_with fail
          refine (add_any n a2 _).mono ?_
          rintro e w4 ⟨he, hb4⟩
          have hb := below_then hb hb4
          clear hb4
          subst he
          go_wp2_with fail
          refine (add_any a1 a2 _).mono ?_
          rintro e w5 ⟨he, hb5⟩
          have hb := below_then hb hb5
          clear hb5
          subst he
          go_wp2_with fail
          refine (add_any a0 _ _).mono ?_
          rintro e w6 ⟨he, hb6⟩
          have hb := below_then hb hb6
          clear hb6
          rw [← A1.out, N1.out] at he
          subst he
          go_wp2_with fail
          refine (add_any a0 a1 _).mono ?_
          rintro e w7 ⟨he, hb7⟩
          have hb := below_then hb hb7
          clear hb7
          rw [N1.out] at he
          subst he
          go_wp2_with fail
          refine (add_any a0 a2 _).mono ?_
          rintro e w8 ⟨he, hb8⟩
          have hb := below_then hb hb8
          clear hb8
          rw [R1.out] at he
          subst he
          go_wp2_with fail
          refine (ex_any _ (HT.out.kept hb)).mono ?_
          rintro e w9 ⟨he, hb9⟩
          have hb := below_then hb hb9
          clear hb9
          subst he
          go_wp2_with fail
          go_ret
          exact ⟨rfl, hb⟩
        · by_cases hc : (n == 2147483648) = true
          · clear hn
            go_enter Tryd.func7, Tryd.ntmps7
            go_wp2_with fail
            refine (add_any a0 a1 _).mono ?_
            rintro e w2 ⟨he, hb2⟩
            have hb := below_then hb hb2
            clear hb2
            rw [N1.out] at he
            subst he
            go_wp2_with fail
            refine (add_any a1 a0 _).mono ?_
            rintro e w3 ⟨he, hb3⟩
            have hb := below_then hb hb3
            clear hb3
            rw [C1.out, N1.out] at he
            subst he
            go_wp2_with fail
            refine (add_any n a2 _).mono ?_
            rintro e w4 ⟨he, hb4⟩
            have hb := below_then hb hb4
            clear hb4
            subst he
            go_wp2_with fail
            refine (add_any a1 a2 _).mono ?_
            rintro e w5 ⟨he, hb5⟩
            have hb := below_then hb hb5
            clear hb5
            subst he
            go_wp2_with fail
            refine (add_any a0 _ _).mono ?_
            rintro e w6 ⟨he, hb6⟩
            have hb := below_then hb hb6
            clear hb6
            rw [← A1.out, N1.out] at he
            subst he
            go_wp2_with fail
            refine (add_any a0 a1 _).mono ?_
            rintro e w7 ⟨he, hb7⟩
            have hb := below_then hb hb7
            clear hb7
            rw [N1.out] at he
            subst he
            go_wp2_with fail
            refine (add_any a0 a2 _).mono ?_
            rintro e w8 ⟨he, hb8⟩
            have hb := below_then hb hb8
            clear hb8
            rw [R1.out] at he
            subst he
            go_wp2_with fail
            refine (ex_any _ (HT.out.kept hb)).mono ?_
            rintro e w9 ⟨he, hb9⟩
            have hb := below_then hb hb9
            clear hb9
            subst he
            go_wp2_with fail
            go_ret
            exact ⟨rfl, hb⟩
          · have hc' : (n == 2147483648) = false := by simpa using hc
            have L1 := Lib.hid (show lessI n a1 = a0 by rw [← hn]; exact lessI_back a0 a1 (by omega) (by omega) (by rw [hn]; simpa using hc'))
            clear hc hn
            go_enter Tryd.func7, Tryd.ntmps7
            go_wp2_with fail
            refine (add_any a0 a1 _).mono ?_
            rintro e w2 ⟨he, hb2⟩
            have hb := below_then hb hb2
            clear hb2
            rw [N1.out] at he
            subst he
            go_wp2_with fail
            refine (add_any a1 a0 _).mono ?_
            rintro e w3 ⟨he, hb3⟩
            have hb := below_then hb hb3
            clear hb3
            rw [C1.out, N1.out] at he
            subst he
            go_wp2_with fail
            refine (add_any n a2 _).mono ?_
            rintro e w4 ⟨he, hb4⟩
            have hb := below_then hb hb4
            clear hb4
            subst he
            go_wp2_with fail
            refine (add_any a1 a2 _).mono ?_
            rintro e w5 ⟨he, hb5⟩
            have hb := below_then hb hb5
            clear hb5
            subst he
            go_wp2_with fail
            refine (add_any a0 _ _).mono ?_
            rintro e w6 ⟨he, hb6⟩
            have hb := below_then hb hb6
            clear hb6
            rw [← A1.out, N1.out] at he
            subst he
            go_wp2_with fail
            refine (add_any a0 a1 _).mono ?_
            rintro e w7 ⟨he, hb7⟩
            have hb := below_then hb hb7
            clear hb7
            rw [N1.out] at he
            subst he
            go_wp2_with fail
            refine (add_any a0 a2 _).mono ?_
            rintro e w8 ⟨he, hb8⟩
            have hb := below_then hb hb8
            clear hb8
            rw [R1.out] at he
            subst he
            go_wp2_with fail
            refine (less_any n a1 _).mono ?_
            rintro e w9 ⟨he, hb9⟩
            have hb := below_then hb hb9
            clear hb9
            rw [L1.out] at he
            subst he
            go_wp2_with fail
            refine (ex_any _ (HT.out.kept hb)).mono ?_
            rintro e w10 ⟨he, hb10⟩
            have hb := below_then hb hb10
            clear hb10
            subst he
            go_wp2_with fail
            go_ret
            exact ⟨rfl, hb⟩
    · have L2 := Lib.hid (lessI_zero a0 a1 (by omega))
      have hgt' : a0 ≤ a1 := by omega
      clear hgt
      by_cases ha : a0 < 0
      · clear hn
        go_enter Tryd.func7, Tryd.ntmps7
        go_wp2_with fail
        refine (add_any a0 a1 _).mono ?_
        rintro e w2 ⟨he, hb2⟩
        have hb := below_then hb hb2
        clear hb2
        rw [N1.out] at he
        subst he
        go_wp2_with fail
        refine (add_any a1 a0 _).mono ?_
        rintro e w3 ⟨he, hb3⟩
        have hb := below_then hb hb3
        clear hb3
        rw [C1.out, N1.out] at he
        subst he
        go_wp2_with fail
        refine (add_any n a2 _).mono ?_
        rintro e w4 ⟨he, hb4⟩
        have hb := below_then hb hb4
        clear hb4
        subst he
        go_wp2_with fail
        refine (add_any a1 a2 _).mono ?_
        rintro e w5 ⟨he, hb5⟩
        have hb := below_then hb hb5
        clear hb5
        subst he
        go_wp2_with fail
        refine (add_any a0 _ _).mono ?_
        rintro e w6 ⟨he, hb6⟩
        have hb := below_then hb hb6
        clear hb6
        rw [← A1.out, N1.out] at he
        subst he
        go_wp2_with fail
        refine (add_any a0 a1 _).mono ?_
        rintro e w7 ⟨he, hb7⟩
        have hb := below_then hb hb7
        clear hb7
        rw [N1.out] at he
        subst he
        go_wp2_with fail
        refine (add_any a0 a2 _).mono ?_
        rintro e w8 ⟨he, hb8⟩
        have hb := below_then hb hb8
        clear hb8
        rw [R1.out] at he
        subst he
        go_wp2_with fail
        refine (less_any a0 a1 _).mono ?_
        rintro e w9 ⟨he, hb9⟩
        have hb := below_then hb hb9
        clear hb9
        rw [L2.out] at he
        subst he
        go_wp2_with fail
        refine (ex_any _ (HT.out.kept hb)).mono ?_
        rintro e w10 ⟨he, hb10⟩
        have hb := below_then hb hb10
        clear hb10
        subst he
        go_wp2_with fail
        go_ret
        exact ⟨rfl, hb⟩
      · by_cases hb1 : a1 < 0
        · exact absurd hb1 (by omega)
        · by_cases hc : (n == 2147483648) = true
          · clear hn
            go_enter Tryd.func7, Tryd.ntmps7
            go_wp2_with fail
            refine (add_any a0 a1 _).mono ?_
            rintro e w2 ⟨he, hb2⟩
            have hb := below_then hb hb2
            clear hb2
            rw [N1.out] at he
            subst he
            go_wp2_with fail
            refine (add_any a1 a0 _).mono ?_
            rintro e w3 ⟨he, hb3⟩
            have hb := below_then hb hb3
            clear hb3
            rw [C1.out, N1.out] at he
            subst he
            go_wp2_with fail
            refine (add_any n a2 _).mono ?_
            rintro e w4 ⟨he, hb4⟩
            have hb := below_then hb hb4
            clear hb4
            subst he
            go_wp2_with fail
            refine (add_any a1 a2 _).mono ?_
            rintro e w5 ⟨he, hb5⟩
            have hb := below_then hb hb5
            clear hb5
            subst he
            go_wp2_with fail
            refine (add_any a0 _ _).mono ?_
            rintro e w6 ⟨he, hb6⟩
            have hb := below_then hb hb6
            clear hb6
            rw [← A1.out, N1.out] at he
            subst he
            go_wp2_with fail
            refine (add_any a0 a1 _).mono ?_
            rintro e w7 ⟨he, hb7⟩
            have hb := below_then hb hb7
            clear hb7
            rw [N1.out] at he
            subst he
            go_wp2_with fail
            refine (add_any a0 a2 _).mono ?_
            rintro e w8 ⟨he, hb8⟩
            have hb := below_then hb hb8
            clear hb8
            rw [R1.out] at he
            subst he
            go_wp2_with fail
            refine (less_any a0 a1 _).mono ?_
            rintro e w9 ⟨he, hb9⟩
            have hb := below_then hb hb9
            clear hb9
            rw [L2.out] at he
            subst he
            go_wp2_with fail
            refine (ex_any _ (HT.out.kept hb)).mono ?_
            rintro e w10 ⟨he, hb10⟩
            have hb := below_then hb hb10
            clear hb10
            subst he
            go_wp2_with fail
            go_ret
            exact ⟨rfl, hb⟩
          · have hc' : (n == 2147483648) = false := by simpa using hc
            have L1 := Lib.hid (show lessI n a1 = a0 by rw [← hn]; exact lessI_back a0 a1 (by omega) (by omega) (by rw [hn]; simpa using hc'))
            clear hc hn
            go_enter Tryd.func7, Tryd.ntmps7
            go_wp2_with fail
            refine (add_any a0 a1 _).mono ?_
            rintro e w2 ⟨he, hb2⟩
            have hb := below_then hb hb2
            clear hb2
            rw [N1.out] at he
            subst he
            go_wp2_with fail
            refine (add_any a1 a0 _).mono ?_
            rintro e w3 ⟨he, hb3⟩
            have hb := below_then hb hb3
            clear hb3
            rw [C1.out, N1.out] at he
            subst he
            go_wp2_with fail
            refine (add_any n a2 _).mono ?_
            rintro e w4 ⟨he, hb4⟩
            have hb := below_then hb hb4
            clear hb4
            subst he
            go_wp2_with fail
            refine (add_any a1 a2 _).mono ?_
            rintro e w5 ⟨he, hb5⟩
            have hb := below_then hb hb5
            clear hb5
            subst he
            go_wp2_with fail
            refine (add_any a0 _ _).mono ?_
            rintro e w6 ⟨he, hb6⟩
            have hb := below_then hb hb6
            clear hb6
            rw [← A1.out, N1.out] at he
            subst he
            go_wp2_with fail
            refine (add_any a0 a1 _).mono ?_
            rintro e w7 ⟨he, hb7⟩
            have hb := below_then hb hb7
            clear hb7
            rw [N1.out] at he
            subst he
            go_wp2_with fail
            refine (add_any a0 a2 _).mono ?_
            rintro e w8 ⟨he, hb8⟩
            have hb := below_then hb hb8
            clear hb8
            rw [R1.out] at he
            subst he
            go_wp2_with fail
            refine (less_any n a1 _).mono ?_
            rintro e w9 ⟨he, hb9⟩
            have hb := below_then hb hb9
            clear hb9
            rw [L1.out] at he
            subst he
            go_wp2_with fail
            refine (less_any a0 a1 _).mono ?_
            rintro e w10 ⟨he, hb10⟩
            have hb := below_then hb hb10
            clear hb10
            rw [L2.out] at he
            subst he
            go_wp2_with fail
            refine (ex_any _ (HT.out.kept hb)).mono ?_
            rintro e w11 ⟨he, hb11⟩
            have hb := below_then hb hb11
            clear hb11
            subst he
            go_wp2_with fail
            go_ret
            exact ⟨rfl, hb⟩
  · skip
    by_cases hgt : a0 > a1
    · skip
      by_cases ha : a0 < 0
      · clear hn
        go_enter Tryd.func7, Tryd.ntmps7
        go_wp2_with fail
        refine (add_any a0 a1 _).mono ?_
        rintro e w2 ⟨he, hb2⟩
        have hb := below_then hb hb2
        clear hb2
        rw [N1.out] at he
        subst he
        go_wp2_with fail
        refine (add_any a1 a0 _).mono ?_
        rintro e w3 ⟨he, hb3⟩
        have hb := below_then hb hb3
        clear hb3
        rw [C1.out, N1.out] at he
        subst he
        go_wp2_with fail
        refine (add_any n a2 _).mono ?_
        rintro e w4 ⟨he, hb4⟩
        have hb := below_then hb hb4
        clear hb4
        subst he
        go_wp2_with fail
        refine (add_any a1 a2 _).mono ?_
        rintro e w5 ⟨he, hb5⟩
        have hb := below_then hb hb5
        clear hb5
        subst he
        go_wp2_with fail
        refine (add_any a0 _ _).mono ?_
        rintro e w6 ⟨he, hb6⟩
        have hb := below_then hb hb6
        clear hb6
        rw [← A1.out, N1.out] at he
        subst he
        go_wp2_with fail
        refine (ex_any _ (HT.out.kept hb)).mono ?_
        rintro e w7 ⟨he, hb7⟩
        have hb := below_then hb hb7
        clear hb7
        subst he
        go_wp2_with fail
        go_ret
        exact ⟨rfl, hb⟩
      · by_cases hb1 : a1 < 0
        · clear hn
          go_enter Tryd.func7, Tryd.ntmps7
          go_wp2_with fail
          refine (add_any a0 a1 _).mono ?_
          rintro e w2 ⟨he, hb2⟩
          have hb := below_then hb hb2
          clear hb2
          rw [N1.out] at he
          subst he
          go_wp2_with fail
          refine (add_any a1 a0 _).mono ?_
          rintro e w3 ⟨he, hb3⟩
          have hb := below_then hb hb3
          clear hb3
          rw [C1.out, N1.out] at he
          subst he
          go_wp2_with fail
          refine (add_any n a2 _).mono ?_
          rintro e w4 ⟨he, hb4⟩
          have hb := below_then hb hb4
          clear hb4
          subst he
          go_wp2_with fail
          refine (add_any a1 a2 _).mono ?_
          rintro e w5 ⟨he, hb5⟩
          have hb := below_then hb hb5
          clear hb5
          subst he
          go_wp2_with fail
          refine (add_any a0 _ _).mono ?_
          rintro e w6 ⟨he, hb6⟩
          have hb := below_then hb hb6
          clear hb6
          rw [← A1.out, N1.out] at he
          subst he
          go_wp2_with fail
          refine (ex_any _ (HT.out.kept hb)).mono ?_
          rintro e w7 ⟨he, hb7⟩
          have hb := below_then hb hb7
          clear hb7
          subst he
          go_wp2_with fail
          go_ret
          exact ⟨rfl, hb⟩
        · by_cases hc : (n == 2147483648) = true
          · clear hn
            go_enter Tryd.func7, Tryd.ntmps7
            go_wp2_with fail
            refine (add_any a0 a1 _).mono ?_
            rintro e w2 ⟨he, hb2⟩
            have hb := below_then hb hb2
            clear hb2
            rw [N1.out] at he
            subst he
            go_wp2_with fail
            refine (add_any a1 a0 _).mono ?_
            rintro e w3 ⟨he, hb3⟩
            have hb := below_then hb hb3
            clear hb3
            rw [C1.out, N1.out] at he
            subst he
            go_wp2_with fail
            refine (add_any n a2 _).mono ?_
            rintro e w4 ⟨he, hb4⟩
            have hb := below_then hb hb4
            clear hb4
            subst he
            go_wp2_with fail
            refine (add_any a1 a2 _).mono ?_
            rintro e w5 ⟨he, hb5⟩
            have hb := below_then hb hb5
            clear hb5
            subst he
            go_wp2_with fail
            refine (add_any a0 _ _).mono ?_
            rintro e w6 ⟨he, hb6⟩
            have hb := below_then hb hb6
            clear hb6
            rw [← A1.out, N1.out] at he
            subst he
            go_wp2_with fail
            refine (ex_any _ (HT.out.kept hb)).mono ?_
            rintro e w7 ⟨he, hb7⟩
            have hb := below_then hb hb7
            clear hb7
            subst he
            go_wp2_with fail
            go_ret
            exact ⟨rfl, hb⟩
          · have hc' : (n == 2147483648) = false := by simpa using hc
            have L1 := Lib.hid (show lessI n a1 = a0 by rw [← hn]; exact lessI_back a0 a1 (by omega) (by omega) (by rw [hn]; simpa using hc'))
            clear hc hn
            go_enter Tryd.func7, Tryd.ntmps7
            go_wp2_with fail
            refine (add_any a0 a1 _).mono ?_
            rintro e w2 ⟨he, hb2⟩
            have hb := below_then hb hb2
            clear hb2
            rw [N1.out] at he
            subst he
            go_wp2_with fail
            refine (add_any a1 a0 _).mono ?_
            rintro e w3 ⟨he, hb3⟩
            have hb := below_then hb hb3
            clear hb3
            rw [C1.out, N1.out] at he
            subst he
            go_wp2_with fail
            refine (add_any n a2 _).mono ?_
            rintro e w4 ⟨he, hb4⟩
            have hb := below_then hb hb4
            clear hb4
            subst he
            go_wp2_with fail
            refine (add_any a1 a2 _).mono ?_
            rintro e w5 ⟨he, hb5⟩
            have hb := below_then hb hb5
            clear hb5
            subst he
            go_wp2_with fail
            refine (add_any a0 _ _).mono ?_
            rintro e w6 ⟨he, hb6⟩
            have hb := below_then hb hb6
            clear hb6
            rw [← A1.out, N1.out] at he
            subst he
            go_wp2_with fail
            refine (less_any n a1 _).mono ?_
            rintro e w7 ⟨he, hb7⟩
            have hb := below_then hb hb7
            clear hb7
            rw [L1.out] at he
            subst he
            go_wp2_with fail
            refine (ex_any _ (HT.out.kept hb)).mono ?_
            rintro e w8 ⟨he, hb8⟩
            have hb := below_then hb hb8
            clear hb8
            subst he
            go_wp2_with fail
            go_ret
            exact ⟨rfl, hb⟩
    · have L2 := Lib.hid (lessI_zero a0 a1 (by omega))
      have hgt' : a0 ≤ a1 := by omega
      clear hgt
      by_cases ha : a0 < 0
      · clear hn
        go_enter Tryd.func7, Tryd.ntmps7
        go_wp2_with fail
        refine (add_any a0 a1 _).mono ?_
        rintro e w2 ⟨he, hb2⟩
        have hb := below_then hb hb2
        clear hb2
        rw [N1.out] at he
        subst he
        go_wp2_with fail
        refine (add_any a1 a0 _).mono ?_
        rintro e w3 ⟨he, hb3⟩
        have hb := below_then hb hb3
        clear hb3
        rw [C1.out, N1.out] at he
        subst he
        go_wp2_with fail
        refine (add_any n a2 _).mono ?_
        rintro e w4 ⟨he, hb4⟩
        have hb := below_then hb hb4
        clear hb4
        subst he
        go_wp2_with fail
        refine (add_any a1 a2 _).mono ?_
        rintro e w5 ⟨he, hb5⟩
        have hb := below_then hb hb5
        clear hb5
        subst he
        go_wp2_with fail
        refine (add_any a0 _ _).mono ?_
        rintro e w6 ⟨he, hb6⟩
        have hb := below_then hb hb6
        clear hb6
        rw [← A1.out, N1.out] at he
        subst he
        go_wp2_with fail
        refine (less_any a0 a1 _).mono ?_
        rintro e w7 ⟨he, hb7⟩
        have hb := below_then hb hb7
        clear hb7
        rw [L2.out] at he
        subst he
        go_wp2_with fail
        refine (ex_any _ (HT.out.kept hb)).mono ?_
        rintro e w8 ⟨he, hb8⟩
        have hb := below_then hb hb8
        clear hb8
        subst he
        go_wp2_with fail
        go_ret
        exact ⟨rfl, hb⟩
      · by_cases hb1 : a1 < 0
        · exact absurd hb1 (by omega)
        · by_cases hc : (n == 2147483648) = true
          · clear hn
            go_enter Tryd.func7, Tryd.ntmps7
            go_wp2_with fail
            refine (add_any a0 a1 _).mono ?_
            rintro e w2 ⟨he, hb2⟩
            have hb := below_then hb hb2
            clear hb2
            rw [N1.out] at he
            subst he
            go_wp2_with fail
            refine (add_any a1 a0 _).mono ?_
            rintro e w3 ⟨he, hb3⟩
            have hb := below_then hb hb3
            clear hb3
            rw [C1.out, N1.out] at he
            subst he
            go_wp2_with fail
            refine (add_any n a2 _).mono ?_
            rintro e w4 ⟨he, hb4⟩
            have hb := below_then hb hb4
            clear hb4
            subst he
            go_wp2_with fail
            refine (add_any a1 a2 _).mono ?_
            rintro e w5 ⟨he, hb5⟩
            have hb := below_then hb hb5
            clear hb5
            subst he
            go_wp2_with fail
            refine (add_any a0 _ _).mono ?_
            rintro e w6 ⟨he, hb6⟩
            have hb := below_then hb hb6
            clear hb6
            rw [← A1.out, N1.out] at he
            subst he
            go_wp2_with fail
            refine (less_any a0 a1 _).mono ?_
            rintro e w7 ⟨he, hb7⟩
            have hb := below_then hb hb7
            clear hb7
            rw [L2.out] at he
            subst he
            go_wp2_with fail
            refine (ex_any _ (HT.out.kept hb)).mono ?_
            rintro e w8 ⟨he, hb8⟩
            have hb := below_then hb hb8
            clear hb8
            subst he
            go_wp2_with fail
            go_ret
            exact ⟨rfl, hb⟩
          · have hc' : (n == 2147483648) = false := by simpa using hc
            have L1 := Lib.hid (show lessI n a1 = a0 by rw [← hn]; exact lessI_back a0 a1 (by omega) (by omega) (by rw [hn]; simpa using hc'))
            clear hc hn
            go_enter Tryd.func7, Tryd.ntmps7
            go_wp2_with fail
            refine (add_any a0 a1 _).mono ?_
            rintro e w2 ⟨he, hb2⟩
            have hb := below_then hb hb2
            clear hb2
            rw [N1.out] at he
            subst he
            go_wp2_with fail
            refine (add_any a1 a0 _).mono ?_
            rintro e w3 ⟨he, hb3⟩
            have hb := below_then hb hb3
            clear hb3
            rw [C1.out, N1.out] at he
            subst he
            go_wp2_with fail
            refine (add_any n a2 _).mono ?_
            rintro e w4 ⟨he, hb4⟩
            have hb := below_then hb hb4
            clear hb4
            subst he
            go_wp2_with fail
            refine (add_any a1 a2 _).mono ?_
            rintro e w5 ⟨he, hb5⟩
            have hb := below_then hb hb5
            clear hb5
            subst he
            go_wp2_with fail
            refine (add_any a0 _ _).mono ?_
            rintro e w6 ⟨he, hb6⟩
            have hb := below_then hb hb6
            clear hb6
            rw [← A1.out, N1.out] at he
            subst he
            go_wp2_with fail
            refine (less_any n a1 _).mono ?_
            rintro e w7 ⟨he, hb7⟩
            have hb := below_then hb hb7
            clear hb7
            rw [L1.out] at he
            subst he
            go_wp2_with fail
            refine (less_any a0 a1 _).mono ?_
            rintro e w8 ⟨he, hb8⟩
            have hb := below_then hb hb8
            clear hb8
            rw [L2.out] at he
            subst he
            go_wp2_with fail
            refine (ex_any _ (HT.out.kept hb)).mono ?_
            rintro e w9 ⟨he, hb9⟩
            have hb := below_then hb hb9
            clear hb9
            subst he
            go_wp2_with fail
            go_ret
            exact ⟨rfl, hb⟩

theorem door_met (os : Os) (args : Array Value) : laidMetH Tryd.prog Rows.decimalHeldRow.laid ((World.doorLaid Tryd.prog 24 os).forCall (fun _ _ => 0) ⟨#[], args, []⟩).memory :=
  laidMetH_of_parts3 (fuel := 8) (laidMet_of_run' 8 (by kernel_rfl) (by kernel_rfl)) (by kernel_rfl) (by kernel_rfl)

set_option maxRecDepth 100000 in
theorem lifted (os : Os) (started : os.Started) (H : Type) (enc : TypeId × Value → H) :
    ReturnsInHanded {} Tryd.checked os 7 .any (fun w args => (Rows.decimalHeldSpec.pre enc Tryd.prog Tryd.f7 [] false w args ∧ laidMetH Tryd.prog Rows.decimalHeldRow.laid w) ∧ sizedMet enc Tryd.prog Tryd.f7 (OpenSpec.ofChange Rows.decimalHeldSpec) false w args) (Rows.decimalHeldSpec.post enc Tryd.prog Tryd.f7 false true false false) := by
  refine returnsInHanded_of_change_and (C := Tryd.checked) (X := fun w _ => laidMetH Tryd.prog Rows.decimalHeldRow.laid w) (fun _ _ _ hh h => h.of_heap hh) own started (by kernel_rfl) Tryd.func7
    (ChangeSpec.witness_shaped (enc := enc) (C := Tryd.checked) (os := os) (X := fun w _ => laidMetH Tryd.prog Rows.decimalHeldRow.laid w) false (World.doorLaid Tryd.prog 24 os) #[.int .i64 0, .int .i64 0, .int .i64 0] 8 rfl (World.shaped_of_RefB (by kernel_rfl) (by kernel_rfl)) (by kernel_rfl) (by kernel_rfl) (by kernel_rfl) (door_met os _)) ?_
  intro W base args ds gs before hval0 hW _ _ hL _
  have hval : ∀ (j : Nat) t v, Tryd.f7.params[j]? = some t → args[j]? = some v → Value.okWide Tryd.prog W .any base t v := hval0
  have hW' := hW
  obtain ⟨p, q, hA0, hV, rfl, hfz, hnd⟩ := hW
  have hA : DataW.TrodAll enc Tryd.prog W 0 (fun _ => true) true Tryd.f7.params.toList args.toList ds p := hA0
  rw [Tryd.params7] at hA hval
  obtain ⟨v0, vs0, d0, ds0, p0, q0, hargs, rfl, rfl, h0, r0⟩ := trodAll_cons hA
  obtain ⟨v1, vs1, d1, ds1, p1, q1, rfl, rfl, rfl, h1, r1⟩ := trodAll_cons r0
  obtain ⟨v2, vs2, d2, ds2, p2, q2, rfl, rfl, rfl, h2, r2⟩ := trodAll_cons r1
  obtain ⟨rfl, rfl, rfl⟩ := trodAll_nil r2
  obtain rfl : args = #[v0, v1, v2] := by cases args; simp_all
  obtain ⟨rfl, rfl⟩ := trodVars_none hV
  obtain ⟨a0, rfl, rfl, rfl, w0⟩ := open_int Tryd.underlying3 (hval 0 3 v0 rfl rfl) h0
  obtain ⟨a1, rfl, rfl, rfl, w1⟩ := open_int Tryd.underlying3 (hval 1 3 v1 rfl rfl) h1
  obtain ⟨a2, rfl, rfl, rfl, w2⟩ := open_int Tryd.underlying3 (hval 2 3 v2 rfl rfl) h2
  clear hA0 hval0
  simp only [List.append_nil] at hW'
  refine (walk a0 a1 a2 w0 w1 w2 W hL).mono fun e W' ⟨he, hg⟩ => ?_
  subst he
  exact ⟨_, rfl, _, _, _, [], [], [], hW', (trodAll_cons_mk (shut_bool Tryd.underlying4 _) trodAll_mk0), (trodAll_cons_mk (shut_int Tryd.underlying3 w0) (trodAll_cons_mk (shut_int Tryd.underlying3 w1) (trodAll_cons_mk (shut_int Tryd.underlying3 w2) trodAll_mk0))), rfl, hg.frame _, fun h => by cases h⟩

theorem over : Rows.decimalHeldRow.holds Tryd.pinned (OpenSpec.ofChange Rows.decimalHeldSpec) :=
  OpenClaim.holds_of_wide 7 Tryd.f7 rfl rfl rfl rfl rfl rfl rfl ⟨rfl, rfl, rfl, rfl, rfl⟩ rfl rfl rfl rfl rfl (by kernel_rfl) Tryd.func7 (by kernel_rfl)
    (of_decide_eq_true (by kernel_rfl)) (by unfold Func.isWrapper; first | (rw [if_pos (by decide +kernel)]; kernel_rfl) | (rw [if_neg (by decide +kernel)]; exact ⟨rfl, rfl⟩))
    (fun os started H enc _ => lifted os started H enc)

theorem said : Rows.DecimalHeldSaid :=
  over

theorem plain (f : FuncId) (fn : Func) (hf : Tryd.pinned.checked.prog.funcNamed "depot/depotlaw02.DecimalHeld" = some f) (hfn : Tryd.pinned.checked.prog.funcs[f]? = some fn) :
    false = Tryd.pinned.checked.prog.looks [] ∧ ∀ (j : Nat) t, fn.params[j]? = some t → Tryd.pinned.checked.prog.wantsStandIn t = false := by
  obtain rfl : f = 7 := Option.some.inj ((show Tryd.prog.funcNamed "depot/depotlaw02.DecimalHeld" = some 7 by kernel_rfl).symm.trans hf) |>.symm
  obtain rfl : fn = Tryd.f7 := (Option.some.inj (Tryd.func7.symm.trans hfn)).symm
  refine ⟨by kernel_rfl, fun j t ht => ?_⟩
  rw [Tryd.params7] at ht
  · obtain rfl : t = 3 := by simpa using Array.mem_of_getElem? ht
    exact (show Tryd.prog.wantsStandIn 3 = false by kernel_rfl)

theorem proved : Rows.DecimalHeldCardSaid :=
  Claim7.holds_tied_plain_at .later [] _ _ _ _ said (fun _ h => by cases h) (by kernel_rfl) (fun _ h => by cases h) decimalHeld_row_tie rfl ⟨rfl, rfl⟩ (by kernel_rfl) rfl plain (by kernel_rfl)
#print axioms proved
end Go.Proofs.YtecfcaigohilkaaDoor.decimalHeld
