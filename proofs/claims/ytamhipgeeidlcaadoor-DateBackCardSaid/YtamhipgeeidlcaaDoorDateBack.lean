/-
  The law DateBack returns true for every two times and every text and leaves what it was given as it was, tied to the program's own text: its tables and the library's start as their initialisers lay them.
-/
import Derived.Test.YtamhipgeeidlcaaDoorRows
import Derived.WalkKit
import Derived.ProofKit
import Derived.OpenShut
import Derived.ShutString
import Derived.Test.YtamhipgeeidlcaaDoorDatX
import Derived.Test.YtamhipgeeidlcaaDoorDatLd
import Derived.Below
import Derived.ChangeOld
import Derived.Test.YtamhipgeeidlcaaDoorCards
import Derived.Test.YtamhipgeeidlcaaDoorTie
import Derived.LaidMore
import Derived.Lib.LaidTab
import Derived.Stop.Joined
import Derived.Lay
namespace Go.Proofs.YtamhipgeeidlcaaDoor.dateBack
open Go.ChangeShapes Go.WideShapes Go.ChangeAt Go.RowKit
open Go.ChangeMaps (open_string shut_string)
set_option linter.unusedVariables false      -- a walk need not use every 'w<i>' (that an integer argument fits its kind)

theorem own : ownKnob Tryd.prog.godebug = none := by kernel_rfl

set_option maxHeartbeats 8000000 in
set_option maxRecDepth 100000 in
theorem walk (a0 : Int) (a1 : Int) (a2 : ByteArray) (w0 : (Lit.int .i64 a0).wf = true) (w1 : (Lit.int .i64 a1).wf = true) (w2 : a2.size ≤ maxLen) (w : World) (hL : laidMetH Tryd.prog Rows.dateBackRow.laid w) :
    Calls Tryd.prog 6 #[.int .i64 a0, .int .i64 a1, .string a2] w fun e w' => e = .returned (.bool true) ∧ Below w.heap.size w w' := by
  have TT := Lib.hid (datTabs hL)
  clear hL
  have t := wf_i64 w0
  have u := wf_i64 w1
  by_cases k0 : (200 : Int) < (a2.size : Int)
  · go_enter Tryd.func6, Tryd.ntmps6
    go_wp2_with fail
    refine (ex_any _ TT.out).mono ?_
    rintro e v1 ⟨rfl, hb⟩
    go_wp2_with fail
    go_ret
    exact ⟨rfl, hb⟩
  have cp := fun W (hW : DatTabs W) => parse_any a2 (by omega) W hW
  have cases4 : (∃ V : Int, parT a2 = (V, 24)) ∨ (∃ T : Nat, T ≤ 253402300799 ∧ parT a2 = ((T : Int), 0) ∧ ((fmtI (T : Int) = a2.data.toList) ∨ (fmtI (T : Int) ≠ a2.data.toList ∧ oldI (T : Int) = a2.data.toList) ∨ (fmtI (T : Int) ≠ a2.data.toList ∧ oldI (T : Int) ≠ a2.data.toList ∧ plnI (T : Int) = a2.data.toList))) := by
    rcases parT_spec a2 with ⟨T, hT, hr⟩ | ⟨h, _⟩
    · refine .inr ⟨T, ?_, hT, ?_⟩
      · rcases hr with ⟨h, _⟩ | ⟨h, _⟩ <;> omega
      · by_cases g1 : fmtI (T : Int) = a2.data.toList
        · exact .inl g1
        · by_cases g2 : oldI (T : Int) = a2.data.toList
          · exact .inr (.inl ⟨g1, g2⟩)
          · refine .inr (.inr ⟨g1, g2, ?_⟩)
            rcases hr with ⟨h, hf | hf⟩ | ⟨h, hf⟩
            · exact absurd (by rw [fmtI_nat T h, hf]) g1
            · rw [plnI_nat T h, hf]
            · exact absurd (by rw [oldI_nat T h, hf]) g2
    · exact .inl ⟨0, h⟩
  have HT : Hid ((a0 < 0 ∨ 253402300799 < a0) → fmtI a0 = [] ∧ oldI a0 = [] ∧ plnI a0 = []) := fun h => by
    unfold fmtI oldI plnI
    rw [if_neg (by omega), if_neg (by omega), if_neg (by omega)]
    exact ⟨rfl, rfl, rfl⟩
  have cf := fun W (hW : DatTabs W) => format_any a0 t W hW
  have co := fun W (hW : DatTabs W) => old_any a0 t W hW
  have cq := fun W (hW : DatTabs W) => plain7_any a0 t W hW
  have cu := fun W (hW : DatTabs W) => format_any a1 u W hW
  have HIN : Hid (¬ (a0 < 0 ∨ 253402300799 < a0) → parT (mkS (fmtI a0)) = (a0, 0) ∧ parT (mkS (plnI a0)) = (a0, 0) ∧ (mkS (fmtI a0)).size ≤ 100 ∧ (mkS (plnI a0)).size ≤ 100 ∧ (mkS (oldI a0)).size ≤ 100 ∧ ((mkS (oldI a0)).toList.isEmpty = true ∨ ((mkS (oldI a0)).toList.isEmpty = false ∧ parT (mkS (oldI a0)) = (a0, 0)))) := fun h => by
    obtain ⟨T, rfl⟩ := Int.eq_ofNat_of_zero_le (show 0 ≤ a0 by omega)
    have hT : T ≤ 253402300799 := by omega
    have l1 := fmt_len hT
    have l2 := pln_len hT
    rw [fmtI_nat T hT, plnI_nat T hT]
    refine ⟨parT_at (.inl ⟨hT, .inl rfl⟩), parT_at (.inl ⟨hT, .inr rfl⟩), by rw [mkS_size]; omega, by rw [mkS_size]; omega, ?_⟩
    by_cases ho : T ≤ 3155759999
    · have l3 := old_len ho
      rw [oldI_nat T ho]
      refine ⟨by rw [mkS_size]; omega, .inr ⟨?_, parT_at (.inr ⟨ho, rfl⟩)⟩⟩
      rw [Lib.toList_data, mkS_list]
      cases hl : oldL T with
      | nil => rw [hl] at l3; exact absurd l3.1 (by decide)
      | cons c r => rfl
    · rw [oldI_big _ (by omega)]
      exact ⟨by decide, .inl (by rw [Lib.toList_data]; rfl)⟩
  have HSM : Hid (¬ (a0 < 0 ∨ 253402300799 < a0) → ((mkS (fmtI a1)).toList == (mkS (fmtI a0)).toList) = (a1 == a0)) := fun h => by
    rw [same_list]
    have := fmt_same (t := a0) (u := a1) (by omega) (by omega)
    by_cases e : a1 = a0
    · rw [this.2 e, e]; simp
    · have g : ¬ fmtI a1 = fmtI a0 := fun h => e (this.1 h)
      rw [beq_eq_false_iff_ne.2 g, beq_eq_false_iff_ne.2 e]
  have pf := fun (h : (mkS (fmtI a0)).size ≤ 100) W (hW : DatTabs W) => parse_any (mkS (fmtI a0)) (by omega) W hW
  have pq := fun (h : (mkS (plnI a0)).size ≤ 100) W (hW : DatTabs W) => parse_any (mkS (plnI a0)) (by omega) W hW
  have po := fun (h : (mkS (oldI a0)).size ≤ 100) W (hW : DatTabs W) => parse_any (mkS (oldI a0)) (by omega) W hW
  have HE : Hid ((a0 < 0 ∨ 253402300799 < a0) → (mkS (fmtI a0)).toList.isEmpty = true ∧ (mkS (oldI a0)).toList.isEmpty = true ∧ (mkS (plnI a0)).toList.isEmpty = true) := fun h => by
    have := HT.out h
    rw [this.1, this.2.1, this.2.2, Lib.toList_data]
    exact ⟨rfl, rfl, rfl⟩
  clear HT
  generalize mkS (fmtI a0) = F at *
  generalize mkS (oldI a0) = O at *
  generalize mkS (plnI a0) = P at *
  generalize mkS (fmtI a1) = G at *
  have CF := Lib.hid cf
  have CO := Lib.hid co
  have CQ := Lib.hid cq
  have CU := Lib.hid cu
  have PF := Lib.hid pf
  have PQ := Lib.hid pq
  have PO := Lib.hid po
  have CP := Lib.hid cp
  clear cf co cq cu pf pq po cp
  rcases cases4 with ⟨V, hV⟩ | ⟨T, hT, hV, hc⟩
  · have z := CP.out
    rw [hV] at z
    have Z := Lib.hid z
    clear z hV
    go_enter Tryd.func6, Tryd.ntmps6
    have hb := Below.refl w.heap.size w
    go_wp2_with fail
    refine (Z.out _ (TT.out.kept hb)).mono ?_
    rintro e v1 ⟨rfl, hb1⟩
    have hb := below_then hb hb1
    clear hb1
    by_cases hr : a0 < 0 ∨ 253402300799 < a0
    · obtain ⟨x1, x2, x3⟩ := HE.out hr
      have hr2 := hr
      rcases Classical.em (a0 < 0) with h1 | h1
      all_goals
        have hr3 := hr
        try have h2 : 253402300799 < a0 := hr3.resolve_left h1
        clear hr hr2 hr3
        go_wp2_with fail
        refine (CF.out _ (TT.out.kept hb)).mono ?_
        rintro e v2 ⟨rfl, hb2⟩
        have hb := below_then hb hb2
        clear hb2
        go_wp2_with fail
        refine (CO.out _ (TT.out.kept hb)).mono ?_
        rintro e v3 ⟨rfl, hb3⟩
        have hb := below_then hb hb3
        clear hb3
        go_wp2_with fail
        refine (CQ.out _ (TT.out.kept hb)).mono ?_
        rintro e v4 ⟨rfl, hb4⟩
        have hb := below_then hb hb4
        clear hb4
        go_wp2_with fail
        refine (ex_any _ (TT.out.kept hb)).mono ?_
        rintro e v5 ⟨rfl, hb5⟩
        have hb := below_then hb hb5
        clear hb5
        go_wp2_with fail
        go_ret
        exact ⟨rfl, hb⟩
    · obtain ⟨x1, x2, x3, x4, x5, x6⟩ := HIN.out hr
      have x7 := HSM.out hr
      have h1 : ¬ a0 < 0 := fun h => hr (.inl h)
      have h2 : ¬ 253402300799 < a0 := fun h => hr (.inr h)
      clear hr
      have y1 := PF.out x3
      have y2 := PQ.out x4
      rw [x1] at y1
      rw [x2] at y2
      have Y1 := Lib.hid y1
      have Y2 := Lib.hid y2
      have Y3 := Lib.hid (PO.out x5)
      clear y1 y2 x1 x2
      have hub : ((a1 == a0) = true ∧ (G.toList == F.toList) = true) ∨ ((a1 == a0) = false ∧ (G.toList == F.toList) = false) := by
        rw [x7]
        cases a1 == a0 <;> simp
      clear x7
      rcases hub with ⟨g1, g2⟩ | ⟨g1, g2⟩
      all_goals
        go_wp2_with fail
        refine (CF.out _ (TT.out.kept hb)).mono ?_
        rintro e v6 ⟨rfl, hb6⟩
        have hb := below_then hb hb6
        clear hb6
        go_wp2_with fail
        refine (Y1.out _ (TT.out.kept hb)).mono ?_
        rintro e v7 ⟨rfl, hb7⟩
        have hb := below_then hb hb7
        clear hb7
        go_wp2_with fail
        refine (CQ.out _ (TT.out.kept hb)).mono ?_
        rintro e v8 ⟨rfl, hb8⟩
        have hb := below_then hb hb8
        clear hb8
        go_wp2_with fail
        refine (Y2.out _ (TT.out.kept hb)).mono ?_
        rintro e v9 ⟨rfl, hb9⟩
        have hb := below_then hb hb9
        clear hb9
        go_wp2_with fail
        refine (CU.out _ (TT.out.kept hb)).mono ?_
        rintro e v10 ⟨rfl, hb10⟩
        have hb := below_then hb hb10
        clear hb10
        go_wp2_with fail
        refine (CF.out _ (TT.out.kept hb)).mono ?_
        rintro e v11 ⟨rfl, hb11⟩
        have hb := below_then hb hb11
        clear hb11
        rcases x6 with x6 | ⟨x6, x8⟩
        · obtain ⟨V, hV⟩ : ∃ V, V = (parT O).1 := ⟨_, rfl⟩
          obtain ⟨B, hB⟩ : ∃ B, B = (parT O).2 := ⟨_, rfl⟩
          have y3 := Y3.out
          rw [← hV, ← hB] at y3
          have Z3 := Lib.hid y3
          clear y3 hV hB
          go_wp2_with fail
          refine (CO.out _ (TT.out.kept hb)).mono ?_
          rintro e v12 ⟨rfl, hb12⟩
          have hb := below_then hb hb12
          clear hb12
          go_wp2_with fail
          refine (Z3.out _ (TT.out.kept hb)).mono ?_
          rintro e v13 ⟨rfl, hb13⟩
          have hb := below_then hb hb13
          clear hb13
          go_wp2_with fail
          refine (CO.out _ (TT.out.kept hb)).mono ?_
          rintro e v14 ⟨rfl, hb14⟩
          have hb := below_then hb hb14
          clear hb14
          go_wp2_with fail
          refine (ex_any _ (TT.out.kept hb)).mono ?_
          rintro e v15 ⟨rfl, hb15⟩
          have hb := below_then hb hb15
          clear hb15
          go_wp2_with fail
          go_ret
          exact ⟨rfl, hb⟩
        · have y3 := Y3.out
          rw [x8] at y3
          have Z3 := Lib.hid y3
          clear y3 x8
          go_wp2_with fail
          refine (CO.out _ (TT.out.kept hb)).mono ?_
          rintro e v16 ⟨rfl, hb16⟩
          have hb := below_then hb hb16
          clear hb16
          go_wp2_with fail
          refine (Z3.out _ (TT.out.kept hb)).mono ?_
          rintro e v17 ⟨rfl, hb17⟩
          have hb := below_then hb hb17
          clear hb17
          go_wp2_with fail
          refine (CO.out _ (TT.out.kept hb)).mono ?_
          rintro e v18 ⟨rfl, hb18⟩
          have hb := below_then hb hb18
          clear hb18
          go_wp2_with fail
          refine (ex_any _ (TT.out.kept hb)).mono ?_
          rintro e v19 ⟨rfl, hb19⟩
          have hb := below_then hb hb19
          clear hb19
          go_wp2_with fail
          go_ret
          exact ⟨rfl, hb⟩
  have z := CP.out
  rw [hV] at z
  have Z := Lib.hid z
  clear z hV
  have d1 := Lib.hid (fun W (hW : DatTabs W) => format_any (T : Int) (by omega) W hW)
  have d2 := Lib.hid (fun W (hW : DatTabs W) => old_any (T : Int) (by omega) W hW)
  have d3 := Lib.hid (fun W (hW : DatTabs W) => plain7_any (T : Int) (by omega) W hW)
  have q1 : (a2.toList == (mkS (fmtI (T : Int))).toList) = (a2.data.toList == fmtI (T : Int)) := by rw [Lib.toList_data, Lib.toList_data, mkS_list]
  have q2 : (a2.toList == (mkS (oldI (T : Int))).toList) = (a2.data.toList == oldI (T : Int)) := by rw [Lib.toList_data, Lib.toList_data, mkS_list]
  have q3 : (a2.toList == (mkS (plnI (T : Int))).toList) = (a2.data.toList == plnI (T : Int)) := by rw [Lib.toList_data, Lib.toList_data, mkS_list]
  generalize fmtI (T : Int) = fT at *
  generalize oldI (T : Int) = oT at *
  generalize plnI (T : Int) = pT at *
  generalize mkS fT = xF at *
  generalize mkS oT = xO at *
  generalize mkS pT = xP at *
  rcases hc with h | ⟨h, h3⟩ | ⟨h, h3, h4⟩
  · have b1 : (a2.toList == xF.toList) = true := by rw [q1, h]; simp
    clear q1 q2 q3 h
    go_enter Tryd.func6, Tryd.ntmps6
    have hb := Below.refl w.heap.size w
    go_wp2_with fail
    refine (Z.out _ (TT.out.kept hb)).mono ?_
    rintro e v20 ⟨rfl, hb20⟩
    have hb := below_then hb hb20
    clear hb20
    go_wp2_with fail
    refine (d1.out _ (TT.out.kept hb)).mono ?_
    rintro e v21 ⟨rfl, hb21⟩
    have hb := below_then hb hb21
    clear hb21
    by_cases hr : a0 < 0 ∨ 253402300799 < a0
    · obtain ⟨x1, x2, x3⟩ := HE.out hr
      have hr2 := hr
      rcases Classical.em (a0 < 0) with h1 | h1
      all_goals
        have hr3 := hr
        try have h2 : 253402300799 < a0 := hr3.resolve_left h1
        clear hr hr2 hr3
        go_wp2_with fail
        refine (CF.out _ (TT.out.kept hb)).mono ?_
        rintro e v22 ⟨rfl, hb22⟩
        have hb := below_then hb hb22
        clear hb22
        go_wp2_with fail
        refine (CO.out _ (TT.out.kept hb)).mono ?_
        rintro e v23 ⟨rfl, hb23⟩
        have hb := below_then hb hb23
        clear hb23
        go_wp2_with fail
        refine (CQ.out _ (TT.out.kept hb)).mono ?_
        rintro e v24 ⟨rfl, hb24⟩
        have hb := below_then hb hb24
        clear hb24
        go_wp2_with fail
        refine (ex_any _ (TT.out.kept hb)).mono ?_
        rintro e v25 ⟨rfl, hb25⟩
        have hb := below_then hb hb25
        clear hb25
        go_wp2_with fail
        go_ret
        exact ⟨rfl, hb⟩
    · obtain ⟨x1, x2, x3, x4, x5, x6⟩ := HIN.out hr
      have x7 := HSM.out hr
      have h1 : ¬ a0 < 0 := fun h => hr (.inl h)
      have h2 : ¬ 253402300799 < a0 := fun h => hr (.inr h)
      clear hr
      have y1 := PF.out x3
      have y2 := PQ.out x4
      rw [x1] at y1
      rw [x2] at y2
      have Y1 := Lib.hid y1
      have Y2 := Lib.hid y2
      have Y3 := Lib.hid (PO.out x5)
      clear y1 y2 x1 x2
      have hub : ((a1 == a0) = true ∧ (G.toList == F.toList) = true) ∨ ((a1 == a0) = false ∧ (G.toList == F.toList) = false) := by
        rw [x7]
        cases a1 == a0 <;> simp
      clear x7
      rcases hub with ⟨g1, g2⟩ | ⟨g1, g2⟩
      all_goals
        go_wp2_with fail
        refine (CF.out _ (TT.out.kept hb)).mono ?_
        rintro e v26 ⟨rfl, hb26⟩
        have hb := below_then hb hb26
        clear hb26
        go_wp2_with fail
        refine (Y1.out _ (TT.out.kept hb)).mono ?_
        rintro e v27 ⟨rfl, hb27⟩
        have hb := below_then hb hb27
        clear hb27
        go_wp2_with fail
        refine (CQ.out _ (TT.out.kept hb)).mono ?_
        rintro e v28 ⟨rfl, hb28⟩
        have hb := below_then hb hb28
        clear hb28
        go_wp2_with fail
        refine (Y2.out _ (TT.out.kept hb)).mono ?_
        rintro e v29 ⟨rfl, hb29⟩
        have hb := below_then hb hb29
        clear hb29
        go_wp2_with fail
        refine (CU.out _ (TT.out.kept hb)).mono ?_
        rintro e v30 ⟨rfl, hb30⟩
        have hb := below_then hb hb30
        clear hb30
        go_wp2_with fail
        refine (CF.out _ (TT.out.kept hb)).mono ?_
        rintro e v31 ⟨rfl, hb31⟩
        have hb := below_then hb hb31
        clear hb31
        rcases x6 with x6 | ⟨x6, x8⟩
        · obtain ⟨V, hV⟩ : ∃ V, V = (parT O).1 := ⟨_, rfl⟩
          obtain ⟨B, hB⟩ : ∃ B, B = (parT O).2 := ⟨_, rfl⟩
          have y3 := Y3.out
          rw [← hV, ← hB] at y3
          have Z3 := Lib.hid y3
          clear y3 hV hB
          go_wp2_with fail
          refine (CO.out _ (TT.out.kept hb)).mono ?_
          rintro e v32 ⟨rfl, hb32⟩
          have hb := below_then hb hb32
          clear hb32
          go_wp2_with fail
          refine (Z3.out _ (TT.out.kept hb)).mono ?_
          rintro e v33 ⟨rfl, hb33⟩
          have hb := below_then hb hb33
          clear hb33
          go_wp2_with fail
          refine (CO.out _ (TT.out.kept hb)).mono ?_
          rintro e v34 ⟨rfl, hb34⟩
          have hb := below_then hb hb34
          clear hb34
          go_wp2_with fail
          refine (ex_any _ (TT.out.kept hb)).mono ?_
          rintro e v35 ⟨rfl, hb35⟩
          have hb := below_then hb hb35
          clear hb35
          go_wp2_with fail
          go_ret
          exact ⟨rfl, hb⟩
        · have y3 := Y3.out
          rw [x8] at y3
          have Z3 := Lib.hid y3
          clear y3 x8
          go_wp2_with fail
          refine (CO.out _ (TT.out.kept hb)).mono ?_
          rintro e v36 ⟨rfl, hb36⟩
          have hb := below_then hb hb36
          clear hb36
          go_wp2_with fail
          refine (Z3.out _ (TT.out.kept hb)).mono ?_
          rintro e v37 ⟨rfl, hb37⟩
          have hb := below_then hb hb37
          clear hb37
          go_wp2_with fail
          refine (CO.out _ (TT.out.kept hb)).mono ?_
          rintro e v38 ⟨rfl, hb38⟩
          have hb := below_then hb hb38
          clear hb38
          go_wp2_with fail
          refine (ex_any _ (TT.out.kept hb)).mono ?_
          rintro e v39 ⟨rfl, hb39⟩
          have hb := below_then hb hb39
          clear hb39
          go_wp2_with fail
          go_ret
          exact ⟨rfl, hb⟩
  · have b1 : (a2.toList == xF.toList) = false := by rw [q1, beq_eq_false_iff_ne]; exact fun e => h e.symm
    have b2 : (a2.toList == xO.toList) = true := by rw [q2, h3]; simp
    clear q1 q2 q3 h h3
    go_enter Tryd.func6, Tryd.ntmps6
    have hb := Below.refl w.heap.size w
    go_wp2_with fail
    refine (Z.out _ (TT.out.kept hb)).mono ?_
    rintro e v40 ⟨rfl, hb40⟩
    have hb := below_then hb hb40
    clear hb40
    go_wp2_with fail
    refine (d1.out _ (TT.out.kept hb)).mono ?_
    rintro e v41 ⟨rfl, hb41⟩
    have hb := below_then hb hb41
    clear hb41
    go_wp2_with fail
    refine (d2.out _ (TT.out.kept hb)).mono ?_
    rintro e v42 ⟨rfl, hb42⟩
    have hb := below_then hb hb42
    clear hb42
    by_cases hr : a0 < 0 ∨ 253402300799 < a0
    · obtain ⟨x1, x2, x3⟩ := HE.out hr
      have hr2 := hr
      rcases Classical.em (a0 < 0) with h1 | h1
      all_goals
        have hr3 := hr
        try have h2 : 253402300799 < a0 := hr3.resolve_left h1
        clear hr hr2 hr3
        go_wp2_with fail
        refine (CF.out _ (TT.out.kept hb)).mono ?_
        rintro e v43 ⟨rfl, hb43⟩
        have hb := below_then hb hb43
        clear hb43
        go_wp2_with fail
        refine (CO.out _ (TT.out.kept hb)).mono ?_
        rintro e v44 ⟨rfl, hb44⟩
        have hb := below_then hb hb44
        clear hb44
        go_wp2_with fail
        refine (CQ.out _ (TT.out.kept hb)).mono ?_
        rintro e v45 ⟨rfl, hb45⟩
        have hb := below_then hb hb45
        clear hb45
        go_wp2_with fail
        refine (ex_any _ (TT.out.kept hb)).mono ?_
        rintro e v46 ⟨rfl, hb46⟩
        have hb := below_then hb hb46
        clear hb46
        go_wp2_with fail
        go_ret
        exact ⟨rfl, hb⟩
    · obtain ⟨x1, x2, x3, x4, x5, x6⟩ := HIN.out hr
      have x7 := HSM.out hr
      have h1 : ¬ a0 < 0 := fun h => hr (.inl h)
      have h2 : ¬ 253402300799 < a0 := fun h => hr (.inr h)
      clear hr
      have y1 := PF.out x3
      have y2 := PQ.out x4
      rw [x1] at y1
      rw [x2] at y2
      have Y1 := Lib.hid y1
      have Y2 := Lib.hid y2
      have Y3 := Lib.hid (PO.out x5)
      clear y1 y2 x1 x2
      have hub : ((a1 == a0) = true ∧ (G.toList == F.toList) = true) ∨ ((a1 == a0) = false ∧ (G.toList == F.toList) = false) := by
        rw [x7]
        cases a1 == a0 <;> simp
      clear x7
      rcases hub with ⟨g1, g2⟩ | ⟨g1, g2⟩
      all_goals
        go_wp2_with fail
        refine (CF.out _ (TT.out.kept hb)).mono ?_
        rintro e v47 ⟨rfl, hb47⟩
        have hb := below_then hb hb47
        clear hb47
        go_wp2_with fail
        refine (Y1.out _ (TT.out.kept hb)).mono ?_
        rintro e v48 ⟨rfl, hb48⟩
        have hb := below_then hb hb48
        clear hb48
        go_wp2_with fail
        refine (CQ.out _ (TT.out.kept hb)).mono ?_
        rintro e v49 ⟨rfl, hb49⟩
        have hb := below_then hb hb49
        clear hb49
        go_wp2_with fail
        refine (Y2.out _ (TT.out.kept hb)).mono ?_
        rintro e v50 ⟨rfl, hb50⟩
        have hb := below_then hb hb50
        clear hb50
        go_wp2_with fail
        refine (CU.out _ (TT.out.kept hb)).mono ?_
        rintro e v51 ⟨rfl, hb51⟩
        have hb := below_then hb hb51
        clear hb51
        go_wp2_with fail
        refine (CF.out _ (TT.out.kept hb)).mono ?_
        rintro e v52 ⟨rfl, hb52⟩
        have hb := below_then hb hb52
        clear hb52
        rcases x6 with x6 | ⟨x6, x8⟩
        · obtain ⟨V, hV⟩ : ∃ V, V = (parT O).1 := ⟨_, rfl⟩
          obtain ⟨B, hB⟩ : ∃ B, B = (parT O).2 := ⟨_, rfl⟩
          have y3 := Y3.out
          rw [← hV, ← hB] at y3
          have Z3 := Lib.hid y3
          clear y3 hV hB
          go_wp2_with fail
          refine (CO.out _ (TT.out.kept hb)).mono ?_
          rintro e v53 ⟨rfl, hb53⟩
          have hb := below_then hb hb53
          clear hb53
          go_wp2_with fail
          refine (Z3.out _ (TT.out.kept hb)).mono ?_
          rintro e v54 ⟨rfl, hb54⟩
          have hb := below_then hb hb54
          clear hb54
          go_wp2_with fail
          refine (CO.out _ (TT.out.kept hb)).mono ?_
          rintro e v55 ⟨rfl, hb55⟩
          have hb := below_then hb hb55
          clear hb55
          go_wp2_with fail
          refine (ex_any _ (TT.out.kept hb)).mono ?_
          rintro e v56 ⟨rfl, hb56⟩
          have hb := below_then hb hb56
          clear hb56
          go_wp2_with fail
          go_ret
          exact ⟨rfl, hb⟩
        · have y3 := Y3.out
          rw [x8] at y3
          have Z3 := Lib.hid y3
          clear y3 x8
          go_wp2_with fail
          refine (CO.out _ (TT.out.kept hb)).mono ?_
          rintro e v57 ⟨rfl, hb57⟩
          have hb := below_then hb hb57
          clear hb57
          go_wp2_with fail
          refine (Z3.out _ (TT.out.kept hb)).mono ?_
          rintro e v58 ⟨rfl, hb58⟩
          have hb := below_then hb hb58
          clear hb58
          go_wp2_with fail
          refine (CO.out _ (TT.out.kept hb)).mono ?_
          rintro e v59 ⟨rfl, hb59⟩
          have hb := below_then hb hb59
          clear hb59
          go_wp2_with fail
          refine (ex_any _ (TT.out.kept hb)).mono ?_
          rintro e v60 ⟨rfl, hb60⟩
          have hb := below_then hb hb60
          clear hb60
          go_wp2_with fail
          go_ret
          exact ⟨rfl, hb⟩
  · have b1 : (a2.toList == xF.toList) = false := by rw [q1, beq_eq_false_iff_ne]; exact fun e => h e.symm
    have b2 : (a2.toList == xO.toList) = false := by rw [q2, beq_eq_false_iff_ne]; exact fun e => h3 e.symm
    have b3 : (a2.toList == xP.toList) = true := by rw [q3, h4]; simp
    clear q1 q2 q3 h h3 h4
    go_enter Tryd.func6, Tryd.ntmps6
    have hb := Below.refl w.heap.size w
    go_wp2_with fail
    refine (Z.out _ (TT.out.kept hb)).mono ?_
    rintro e v61 ⟨rfl, hb61⟩
    have hb := below_then hb hb61
    clear hb61
    go_wp2_with fail
    refine (d1.out _ (TT.out.kept hb)).mono ?_
    rintro e v62 ⟨rfl, hb62⟩
    have hb := below_then hb hb62
    clear hb62
    go_wp2_with fail
    refine (d2.out _ (TT.out.kept hb)).mono ?_
    rintro e v63 ⟨rfl, hb63⟩
    have hb := below_then hb hb63
    clear hb63
    go_wp2_with fail
    refine (d3.out _ (TT.out.kept hb)).mono ?_
    rintro e v64 ⟨rfl, hb64⟩
    have hb := below_then hb hb64
    clear hb64
    by_cases hr : a0 < 0 ∨ 253402300799 < a0
    · obtain ⟨x1, x2, x3⟩ := HE.out hr
      have hr2 := hr
      rcases Classical.em (a0 < 0) with h1 | h1
      all_goals
        have hr3 := hr
        try have h2 : 253402300799 < a0 := hr3.resolve_left h1
        clear hr hr2 hr3
        go_wp2_with fail
        refine (CF.out _ (TT.out.kept hb)).mono ?_
        rintro e v65 ⟨rfl, hb65⟩
        have hb := below_then hb hb65
        clear hb65
        go_wp2_with fail
        refine (CO.out _ (TT.out.kept hb)).mono ?_
        rintro e v66 ⟨rfl, hb66⟩
        have hb := below_then hb hb66
        clear hb66
        go_wp2_with fail
        refine (CQ.out _ (TT.out.kept hb)).mono ?_
        rintro e v67 ⟨rfl, hb67⟩
        have hb := below_then hb hb67
        clear hb67
        go_wp2_with fail
        refine (ex_any _ (TT.out.kept hb)).mono ?_
        rintro e v68 ⟨rfl, hb68⟩
        have hb := below_then hb hb68
        clear hb68
        go_wp2_with fail
        go_ret
        exact ⟨rfl, hb⟩
    · obtain ⟨x1, x2, x3, x4, x5, x6⟩ := HIN.out hr
      have x7 := HSM.out hr
      have h1 : ¬ a0 < 0 := fun h => hr (.inl h)
      have h2 : ¬ 253402300799 < a0 := fun h => hr (.inr h)
      clear hr
      have y1 := PF.out x3
      have y2 := PQ.out x4
      rw [x1] at y1
      rw [x2] at y2
      have Y1 := Lib.hid y1
      have Y2 := Lib.hid y2
      have Y3 := Lib.hid (PO.out x5)
      clear y1 y2 x1 x2
      have hub : ((a1 == a0) = true ∧ (G.toList == F.toList) = true) ∨ ((a1 == a0) = false ∧ (G.toList == F.toList) = false) := by
        rw [x7]
        cases a1 == a0 <;> simp
      clear x7
      rcases hub with ⟨g1, g2⟩ | ⟨g1, g2⟩
      all_goals
        go_wp2_with fail
        refine (CF.out _ (TT.out.kept hb)).mono ?_
        rintro e v69 ⟨rfl, hb69⟩
        have hb := below_then hb hb69
        clear hb69
        go_wp2_with fail
        refine (Y1.out _ (TT.out.kept hb)).mono ?_
        rintro e v70 ⟨rfl, hb70⟩
        have hb := below_then hb hb70
        clear hb70
        go_wp2_with fail
        refine (CQ.out _ (TT.out.kept hb)).mono ?_
        rintro e v71 ⟨rfl, hb71⟩
        have hb := below_then hb hb71
        clear hb71
        go_wp2_with fail
        refine (Y2.out _ (TT.out.kept hb)).mono ?_
        rintro e v72 ⟨rfl, hb72⟩
        have hb := below_then hb hb72
        clear hb72
        go_wp2_with fail
        refine (CU.out _ (TT.out.kept hb)).mono ?_
        rintro e v73 ⟨rfl, hb73⟩
        have hb := below_then hb hb73
        clear hb73
        go_wp2_with fail
        refine (CF.out _ (TT.out.kept hb)).mono ?_
        rintro e v74 ⟨rfl, hb74⟩
        have hb := below_then hb hb74
        clear hb74
        rcases x6 with x6 | ⟨x6, x8⟩
        · obtain ⟨V, hV⟩ : ∃ V, V = (parT O).1 := ⟨_, rfl⟩
          obtain ⟨B, hB⟩ : ∃ B, B = (parT O).2 := ⟨_, rfl⟩
          have y3 := Y3.out
          rw [← hV, ← hB] at y3
          have Z3 := Lib.hid y3
          clear y3 hV hB
          go_wp2_with fail
          refine (CO.out _ (TT.out.kept hb)).mono ?_
          rintro e v75 ⟨rfl, hb75⟩
          have hb := below_then hb hb75
          clear hb75
          go_wp2_with fail
          refine (Z3.out _ (TT.out.kept hb)).mono ?_
          rintro e v76 ⟨rfl, hb76⟩
          have hb := below_then hb hb76
          clear hb76
          go_wp2_with fail
          refine (CO.out _ (TT.out.kept hb)).mono ?_
          rintro e v77 ⟨rfl, hb77⟩
          have hb := below_then hb hb77
          clear hb77
          go_wp2_with fail
          refine (ex_any _ (TT.out.kept hb)).mono ?_
          rintro e v78 ⟨rfl, hb78⟩
          have hb := below_then hb hb78
          clear hb78
          go_wp2_with fail
          go_ret
          exact ⟨rfl, hb⟩
        · have y3 := Y3.out
          rw [x8] at y3
          have Z3 := Lib.hid y3
          clear y3 x8
          go_wp2_with fail
          refine (CO.out _ (TT.out.kept hb)).mono ?_
          rintro e v79 ⟨rfl, hb79⟩
          have hb := below_then hb hb79
          clear hb79
          go_wp2_with fail
          refine (Z3.out _ (TT.out.kept hb)).mono ?_
          rintro e v80 ⟨rfl, hb80⟩
          have hb := below_then hb hb80
          clear hb80
          go_wp2_with fail
          refine (CO.out _ (TT.out.kept hb)).mono ?_
          rintro e v81 ⟨rfl, hb81⟩
          have hb := below_then hb hb81
          clear hb81
          go_wp2_with fail
          refine (ex_any _ (TT.out.kept hb)).mono ?_
          rintro e v82 ⟨rfl, hb82⟩
          have hb := below_then hb hb82
          clear hb82
          go_wp2_with fail
          go_ret
          exact ⟨rfl, hb⟩

theorem door_met (os : Os) (args : Array Value) : laidMetH Tryd.prog Rows.dateBackRow.laid ((World.laidAll Tryd.prog os Rows.dateBackRow.laid).forCall (fun _ _ => 0) ⟨#[], args, []⟩).memory := by
  rw [MakeChecks.laidMetH_plain _ _ _ (by kernel_rfl)]
  exact laidMet_laidAll _ (by kernel_rfl) (by kernel_rfl)

set_option maxRecDepth 100000 in
theorem lifted (os : Os) (started : os.Started) (H : Type) (enc : TypeId × Value → H) :
    ReturnsInHanded {} Tryd.checked os 6 .any (fun w args => (Rows.dateBackSpec.pre enc Tryd.prog Tryd.f6 [] false w args ∧ laidMetH Tryd.prog Rows.dateBackRow.laid w) ∧ sizedMet enc Tryd.prog Tryd.f6 (OpenSpec.ofChange Rows.dateBackSpec) false w args) (Rows.dateBackSpec.post enc Tryd.prog Tryd.f6 false true false false) := by
  refine returnsInHanded_of_change_and (C := Tryd.checked) (X := fun w _ => laidMetH Tryd.prog Rows.dateBackRow.laid w) (fun _ _ _ hh h => h.of_heap hh) own started (by kernel_rfl) Tryd.func6
    (ChangeSpec.witness_shaped (enc := enc) (C := Tryd.checked) (os := os) (X := fun w _ => laidMetH Tryd.prog Rows.dateBackRow.laid w) false (World.laidAll Tryd.prog os Rows.dateBackRow.laid) #[.int .i64 0, .int .i64 0, .string ByteArray.empty] 8 rfl (World.shaped_of_ZipB (by kernel_rfl) (by kernel_rfl)) (by kernel_rfl) (by kernel_rfl) (by kernel_rfl) (door_met os _)) ?_
  intro W base args ds gs before hval0 hW _ _ hL _
  have hval : ∀ (j : Nat) t v, Tryd.f6.params[j]? = some t → args[j]? = some v → Value.okWide Tryd.prog W .any base t v := hval0
  have hW' := hW
  obtain ⟨p, q, hA0, hV, rfl, hfz, hnd⟩ := hW
  have hA : DataW.TrodAll enc Tryd.prog W 0 (fun _ => true) true Tryd.f6.params.toList args.toList ds p := hA0
  rw [Tryd.params6] at hA hval
  obtain ⟨v0, vs0, d0, ds0, p0, q0, hargs, rfl, rfl, h0, r0⟩ := trodAll_cons hA
  obtain ⟨v1, vs1, d1, ds1, p1, q1, rfl, rfl, rfl, h1, r1⟩ := trodAll_cons r0
  obtain ⟨v2, vs2, d2, ds2, p2, q2, rfl, rfl, rfl, h2, r2⟩ := trodAll_cons r1
  obtain ⟨rfl, rfl, rfl⟩ := trodAll_nil r2
  obtain rfl : args = #[v0, v1, v2] := by cases args; simp_all
  obtain ⟨rfl, rfl⟩ := trodVars_none hV
  obtain ⟨a0, rfl, rfl, rfl, w0⟩ := open_int Tryd.underlying3 (hval 0 3 v0 rfl rfl) h0
  obtain ⟨a1, rfl, rfl, rfl, w1⟩ := open_int Tryd.underlying3 (hval 1 3 v1 rfl rfl) h1
  obtain ⟨a2, rfl, rfl, rfl, w2⟩ := open_string Tryd.underlying9 (hval 2 9 v2 rfl rfl) h2
  clear hA0 hval0
  simp only [List.append_nil] at hW'
  refine (walk a0 a1 a2 w0 w1 w2 W hL).mono fun e W' ⟨he, hg⟩ => ?_
  subst he
  exact ⟨_, rfl, _, _, _, [], [], [], hW', (trodAll_cons_mk (shut_bool Tryd.underlying4 _) trodAll_mk0), (trodAll_cons_mk (shut_int Tryd.underlying3 w0) (trodAll_cons_mk (shut_int Tryd.underlying3 w1) (trodAll_cons_mk (shut_string Tryd.underlying9 w2) trodAll_mk0))), rfl, hg.frame _, fun h => by cases h⟩

theorem over : Rows.dateBackRow.holds Tryd.pinned (OpenSpec.ofChange Rows.dateBackSpec) :=
  OpenClaim.holds_of_wide 6 Tryd.f6 rfl rfl rfl rfl rfl rfl rfl ⟨rfl, rfl, rfl, rfl, rfl⟩ rfl rfl rfl rfl rfl (by kernel_rfl) Tryd.func6 (by kernel_rfl)
    (of_decide_eq_true (by kernel_rfl)) (by unfold Func.isWrapper; first | (rw [if_pos (by decide +kernel)]; kernel_rfl) | (rw [if_neg (by decide +kernel)]; exact ⟨rfl, rfl⟩))
    (fun os started H enc _ => lifted os started H enc)

theorem said : Rows.DateBackSaid :=
  over

theorem plain (f : FuncId) (fn : Func) (hf : Tryd.pinned.checked.prog.funcNamed "depot/depotlaw07.DateBack" = some f) (hfn : Tryd.pinned.checked.prog.funcs[f]? = some fn) :
    false = Tryd.pinned.checked.prog.looks [] ∧ ∀ (j : Nat) t, fn.params[j]? = some t → Tryd.pinned.checked.prog.wantsStandIn t = false := by
  obtain rfl : f = 6 := Option.some.inj ((show Tryd.prog.funcNamed "depot/depotlaw07.DateBack" = some 6 by kernel_rfl).symm.trans hf) |>.symm
  obtain rfl : fn = Tryd.f6 := (Option.some.inj (Tryd.func6.symm.trans hfn)).symm
  refine ⟨by kernel_rfl, fun j t ht => ?_⟩
  rw [Tryd.params6] at ht
  · have hm := Array.mem_of_getElem? ht
    simp only [List.mem_toArray, List.mem_cons, List.not_mem_nil, or_false] at hm
    have all : Tryd.pinned.checked.prog.wantsStandIn 3 = false ∧ Tryd.pinned.checked.prog.wantsStandIn 9 = false := ⟨by kernel_rfl, by kernel_rfl⟩
    rcases hm with rfl | rfl | rfl
    all_goals first | with_reducible exact all.1 | with_reducible exact all.2

theorem proved : Rows.DateBackCardSaid :=
  Claim7.holds_tied_plain_at .later [] _ _ _ _ said (fun _ h => by cases h) (by kernel_rfl) (fun _ h => by cases h) dateBack_row_tie rfl ⟨rfl, rfl⟩ (by kernel_rfl) rfl plain (by kernel_rfl)
#print axioms proved
end Go.Proofs.YtamhipgeeidlcaaDoor.dateBack
