/-
  Contracts of package line: Request, Status, PrintRequest, PrintStatus, Safe, Usual.
-/
import Derived.Test.YtbmlldjkfpekkaaDoorLinA
import Derived.Test.YtbmlldjkfpekkaaDoorShLir
import Derived.Test.YtbmlldjkfpekkaaDoorComQ
import Derived.Test.YtbmlldjkfpekkaaDoorComI
namespace Go.Proofs.YtbmlldjkfpekkaaDoor
open Go.RowKit

set_option maxHeartbeats 4000000 in
set_option maxRecDepth 100000 in
theorem request_any (s : ByteArray) (w : World) (hs : s.size ≤ maxLen) (HT : LinTabs w) :
    Calls Tryd.prog 7 #[.string s] w fun e w' => e = .returned (.tuple #[.string (rqA s), .string (rqB s), .int .i64 (rqV s), .int .i64 (rqE s)]) ∧ Below w.heap.size w w' := by
  by_cases hl : 8192 < s.size
  · have HR := Lib.hid (rq_long hl)
    have hl' : (8192 : Int) < (s.size : Int) := by omega
    clear hl HT
    go_enter Tryd.func7, Tryd.ntmps7
    go_wp2_with fail
    (try simp only [Exit.inBlock, Exit.then]); refine bodyPost_ret (results_tmp4 rfl _ _ _) rfl ?_
    exact ⟨by rw [HR.out.1, HR.out.2.1, HR.out.2.2.1, HR.out.2.2.2]; rfl, Below.refl _ _⟩
  · have hl' : ¬ (8192 : Int) < (s.size : Int) := by omega
    have hA : (ptA s).size ≤ s.size := cutA_size s
    have hB : (ptB s).size ≤ s.size := Nat.le_trans (cutA_size _) (cutZ_size s)
    have hno := rq_ans_no (s := s) hl
    have hye := rq_ans_yes (s := s) hl
    have hQ : rqQ s = ((vrB (ptC s) && tokS (ptA s)) && shB (ptB s)) := rfl
    have HP := Lib.hid (HT.pow)
    have C1 := Lib.hid (fun W => parts_any s W hs)
    have C2 := Lib.hid (fun W (hW : Below w.heap.size w W) => readVersion_any (ptC s) W (tab_below HP.out hW))
    have c3 := fun W => isToken_any (ptA s) W (Nat.le_trans hA hs)
    have t3 : (!(ptA s).toList.isEmpty && allB tokB (ptA s).data.toList) = tokS (ptA s) := rfl
    rw [t3] at c3
    have C3 := Lib.hid c3
    have C4 := Lib.hid (fun W => shown_any (ptB s) (by omega) W)
    clear hA hB hl c3 t3 HT
    generalize rqQ s = Q at *
    generalize rqA s = RA at *
    generalize rqB s = RB at *
    generalize rqV s = RV at *
    generalize rqE s = RE at *
    generalize ptA s = A at *
    generalize ptB s = B at *
    generalize ptC s = Z at *
    generalize ptK s = K at *
    generalize vrN Z = v at *
    generalize vrB Z = vb at *
    generalize tokS A = tk at *
    generalize shB B = sh at *
    cases vb with
    | false =>
      have HR := Lib.hid (hno (by rw [hQ]; rfl))
      clear hno hye hQ
      go_enter Tryd.func7, Tryd.ntmps7
      go_wp2_with fail
      refine (C1.out _).mono ?_
      rintro e w1 ⟨rfl, hb1⟩
      have HB1 := Lib.hid hb1
      clear hb1
      go_wp2_with fail
      refine (C2.out _ HB1.out).mono ?_
      rintro e w2 ⟨rfl, hb2⟩
      have HB2 := Lib.hid (below_then HB1.out hb2)
      clear hb2
      go_wp2_with fail
      (try simp only [Exit.inBlock, Exit.then]); refine bodyPost_ret (results_tmp4 rfl _ _ _) rfl ?_
      exact ⟨by rw [HR.out.1, HR.out.2.1, HR.out.2.2.1, HR.out.2.2.2]; rfl, HB2.out⟩
    | true =>
      cases tk with
      | false =>
        have HR := Lib.hid (hno (by rw [hQ]; rfl))
        clear hno hye hQ
        go_enter Tryd.func7, Tryd.ntmps7
        go_wp2_with fail
        refine (C1.out _).mono ?_
        rintro e w1 ⟨rfl, hb1⟩
        have HB1 := Lib.hid hb1
        clear hb1
        go_wp2_with fail
        refine (C2.out _ HB1.out).mono ?_
        rintro e w2 ⟨rfl, hb2⟩
        have HB2 := Lib.hid (below_then HB1.out hb2)
        clear hb2
        go_wp2_with fail
        refine (C3.out _).mono ?_
        rintro e w3 ⟨rfl, hb3⟩
        have HB3 := Lib.hid (below_then HB2.out hb3)
        clear hb3
        go_wp2_with fail
        (try simp only [Exit.inBlock, Exit.then]); refine bodyPost_ret (results_tmp4 rfl _ _ _) rfl ?_
        exact ⟨by rw [HR.out.1, HR.out.2.1, HR.out.2.2.1, HR.out.2.2.2]; rfl, HB3.out⟩
      | true =>
        cases sh with
        | false =>
          have HR := Lib.hid (hno (by rw [hQ]; rfl))
          clear hno hye hQ
          go_enter Tryd.func7, Tryd.ntmps7
          go_wp2_with fail
          refine (C1.out _).mono ?_
          rintro e w1 ⟨rfl, hb1⟩
          have HB1 := Lib.hid hb1
          clear hb1
          go_wp2_with fail
          refine (C2.out _ HB1.out).mono ?_
          rintro e w2 ⟨rfl, hb2⟩
          have HB2 := Lib.hid (below_then HB1.out hb2)
          clear hb2
          go_wp2_with fail
          refine (C3.out _).mono ?_
          rintro e w3 ⟨rfl, hb3⟩
          have HB3 := Lib.hid (below_then HB2.out hb3)
          clear hb3
          go_wp2_with fail
          refine (C4.out _).mono ?_
          rintro e w4 ⟨rfl, rfl⟩
          go_wp2_with fail
          (try simp only [Exit.inBlock, Exit.then]); refine bodyPost_ret (results_tmp4 rfl _ _ _) rfl ?_
          exact ⟨by rw [HR.out.1, HR.out.2.1, HR.out.2.2.1, HR.out.2.2.2]; rfl, HB3.out⟩
        | true =>
          have HR := Lib.hid (hye (by rw [hQ]; rfl))
          clear hno hye hQ
          go_enter Tryd.func7, Tryd.ntmps7
          go_wp2_with fail
          refine (C1.out _).mono ?_
          rintro e w1 ⟨rfl, hb1⟩
          have HB1 := Lib.hid hb1
          clear hb1
          go_wp2_with fail
          refine (C2.out _ HB1.out).mono ?_
          rintro e w2 ⟨rfl, hb2⟩
          have HB2 := Lib.hid (below_then HB1.out hb2)
          clear hb2
          go_wp2_with fail
          refine (C3.out _).mono ?_
          rintro e w3 ⟨rfl, hb3⟩
          have HB3 := Lib.hid (below_then HB2.out hb3)
          clear hb3
          go_wp2_with fail
          refine (C4.out _).mono ?_
          rintro e w4 ⟨rfl, rfl⟩
          go_wp2_with fail
          (try simp only [Exit.inBlock, Exit.then]); refine bodyPost_ret (results_tmp4 rfl _ _ _) rfl ?_
          exact ⟨by rw [HR.out.1, HR.out.2.1, HR.out.2.2.1, HR.out.2.2.2]; rfl, HB3.out⟩

set_option maxHeartbeats 4000000 in
set_option maxRecDepth 100000 in
theorem status_any (s : ByteArray) (w : World) (hs : s.size ≤ maxLen) (HT : LinTabs w) :
    Calls Tryd.prog 9 #[.string s] w fun e w' => e = .returned (.tuple #[.int .i64 (stN s), .string (stB s), .int .i64 (stV' s), .int .i64 (stE s)]) ∧ Below w.heap.size w w' := by
  by_cases hl : 8192 < s.size
  · have HR := Lib.hid (st_long hl)
    have hl' : (8192 : Int) < (s.size : Int) := by omega
    clear hl HT
    go_enter Tryd.func9, Tryd.ntmps9
    go_wp2_with fail
    (try simp only [Exit.inBlock, Exit.then]); refine bodyPost_ret (results_tmp4 rfl _ _ _) rfl ?_
    exact ⟨by rw [HR.out.1, HR.out.2.1, HR.out.2.2.1, HR.out.2.2.2]; rfl, Below.refl _ _⟩
  · have hl' : ¬ (8192 : Int) < (s.size : Int) := by omega
    have hC : (ptC s).size ≤ s.size := Nat.le_trans (cutZ_size _) (cutZ_size s)
    have hno := st_ans_no (s := s) hl
    have hye := st_ans_yes (s := s) hl
    have hQ : stQ s = (((ptK s && vrB (ptA s)) && cdB (ptB s)) && allB txtB (ptC s).data.toList) := rfl
    have HP := Lib.hid (HT.pow)
    have C1 := Lib.hid (fun W => parts_any s W hs)
    have C2 := Lib.hid (fun W (hW : Below w.heap.size w W) => readVersion_any (ptA s) W (tab_below HP.out hW))
    have C3 := Lib.hid (fun W => readCode_any (ptB s) W)
    have C4 := Lib.hid (fun W => isText_any (ptC s) W (Nat.le_trans hC hs))
    clear hC hl HT
    generalize stQ s = Q at *
    generalize stN s = RA at *
    generalize stB s = RB at *
    generalize stV' s = RV at *
    generalize stE s = RE at *
    generalize ptA s = A at *
    generalize ptB s = B at *
    generalize ptC s = Z at *
    generalize ptK s = K at *
    generalize vrN A = v at *
    generalize vrB A = vb at *
    generalize cdN B = c at *
    generalize cdB B = cb at *
    generalize allB txtB Z.data.toList = tx at *
    cases K with
    | false =>
      have HR := Lib.hid (hno (by rw [hQ]; rfl))
      clear hno hye hQ
      go_enter Tryd.func9, Tryd.ntmps9
      go_wp2_with fail
      refine (C1.out _).mono ?_
      rintro e w1 ⟨rfl, hb1⟩
      have HB1 := Lib.hid hb1
      clear hb1
      go_wp2_with fail
      refine (C2.out _ HB1.out).mono ?_
      rintro e w2 ⟨rfl, hb2⟩
      have HB2 := Lib.hid (below_then HB1.out hb2)
      clear hb2
      go_wp2_with fail
      refine (C3.out _).mono ?_
      rintro e w3 ⟨rfl, hb3⟩
      have HB3 := Lib.hid (below_then HB2.out hb3)
      clear hb3
      go_wp2_with fail
      (try simp only [Exit.inBlock, Exit.then]); refine bodyPost_ret (results_tmp4 rfl _ _ _) rfl ?_
      exact ⟨by rw [HR.out.1, HR.out.2.1, HR.out.2.2.1, HR.out.2.2.2]; rfl, HB3.out⟩
    | true =>
      cases vb with
      | false =>
        have HR := Lib.hid (hno (by rw [hQ]; rfl))
        clear hno hye hQ
        go_enter Tryd.func9, Tryd.ntmps9
        go_wp2_with fail
        refine (C1.out _).mono ?_
        rintro e w1 ⟨rfl, hb1⟩
        have HB1 := Lib.hid hb1
        clear hb1
        go_wp2_with fail
        refine (C2.out _ HB1.out).mono ?_
        rintro e w2 ⟨rfl, hb2⟩
        have HB2 := Lib.hid (below_then HB1.out hb2)
        clear hb2
        go_wp2_with fail
        refine (C3.out _).mono ?_
        rintro e w3 ⟨rfl, hb3⟩
        have HB3 := Lib.hid (below_then HB2.out hb3)
        clear hb3
        go_wp2_with fail
        (try simp only [Exit.inBlock, Exit.then]); refine bodyPost_ret (results_tmp4 rfl _ _ _) rfl ?_
        exact ⟨by rw [HR.out.1, HR.out.2.1, HR.out.2.2.1, HR.out.2.2.2]; rfl, HB3.out⟩
      | true =>
        cases cb with
        | false =>
          have HR := Lib.hid (hno (by rw [hQ]; rfl))
          clear hno hye hQ
          go_enter Tryd.func9, Tryd.ntmps9
          go_wp2_with fail
          refine (C1.out _).mono ?_
          rintro e w1 ⟨rfl, hb1⟩
          have HB1 := Lib.hid hb1
          clear hb1
          go_wp2_with fail
          refine (C2.out _ HB1.out).mono ?_
          rintro e w2 ⟨rfl, hb2⟩
          have HB2 := Lib.hid (below_then HB1.out hb2)
          clear hb2
          go_wp2_with fail
          refine (C3.out _).mono ?_
          rintro e w3 ⟨rfl, hb3⟩
          have HB3 := Lib.hid (below_then HB2.out hb3)
          clear hb3
          go_wp2_with fail
          (try simp only [Exit.inBlock, Exit.then]); refine bodyPost_ret (results_tmp4 rfl _ _ _) rfl ?_
          exact ⟨by rw [HR.out.1, HR.out.2.1, HR.out.2.2.1, HR.out.2.2.2]; rfl, HB3.out⟩
        | true =>
          cases tx with
          | false =>
            have HR := Lib.hid (hno (by rw [hQ]; rfl))
            clear hno hye hQ
            go_enter Tryd.func9, Tryd.ntmps9
            go_wp2_with fail
            refine (C1.out _).mono ?_
            rintro e w1 ⟨rfl, hb1⟩
            have HB1 := Lib.hid hb1
            clear hb1
            go_wp2_with fail
            refine (C2.out _ HB1.out).mono ?_
            rintro e w2 ⟨rfl, hb2⟩
            have HB2 := Lib.hid (below_then HB1.out hb2)
            clear hb2
            go_wp2_with fail
            refine (C3.out _).mono ?_
            rintro e w3 ⟨rfl, hb3⟩
            have HB3 := Lib.hid (below_then HB2.out hb3)
            clear hb3
            go_wp2_with fail
            refine (C4.out _).mono ?_
            rintro e w4 ⟨rfl, hb4⟩
            have HB4 := Lib.hid (below_then HB3.out hb4)
            clear hb4
            go_wp2_with fail
            (try simp only [Exit.inBlock, Exit.then]); refine bodyPost_ret (results_tmp4 rfl _ _ _) rfl ?_
            exact ⟨by rw [HR.out.1, HR.out.2.1, HR.out.2.2.1, HR.out.2.2.2]; rfl, HB4.out⟩
          | true =>
            have HR := Lib.hid (hye (by rw [hQ]; rfl))
            clear hno hye hQ
            go_enter Tryd.func9, Tryd.ntmps9
            go_wp2_with fail
            refine (C1.out _).mono ?_
            rintro e w1 ⟨rfl, hb1⟩
            have HB1 := Lib.hid hb1
            clear hb1
            go_wp2_with fail
            refine (C2.out _ HB1.out).mono ?_
            rintro e w2 ⟨rfl, hb2⟩
            have HB2 := Lib.hid (below_then HB1.out hb2)
            clear hb2
            go_wp2_with fail
            refine (C3.out _).mono ?_
            rintro e w3 ⟨rfl, hb3⟩
            have HB3 := Lib.hid (below_then HB2.out hb3)
            clear hb3
            go_wp2_with fail
            refine (C4.out _).mono ?_
            rintro e w4 ⟨rfl, hb4⟩
            have HB4 := Lib.hid (below_then HB3.out hb4)
            clear hb4
            go_wp2_with fail
            (try simp only [Exit.inBlock, Exit.then]); refine bodyPost_ret (results_tmp4 rfl _ _ _) rfl ?_
            exact ⟨by rw [HR.out.1, HR.out.2.1, HR.out.2.2.1, HR.out.2.2.2]; rfl, HB4.out⟩

/-- Three words joined. -/
theorem join_any3 (a b d : ByteArray) (ha : a.size ≤ 1000000) (hb : b.size ≤ 1000000) (hd : d.size ≤ 1000000) (w : World) (t : TypeId) :
    Calls Tryd.prog 30 #[.slice (some ⟨w.heap.size, 0, none⟩) 3 3] (w.alloc (.cells #[.string a, .string b, .string d] t)) fun e w' =>
      e = .returned (.string (mkS (Lib.join [a.data.toList, b.data.toList, d.data.toList] [32]))) ∧ Below w.heap.size w w' := by
  have hbel : Below w.heap.size w (w.alloc (.cells #[.string a, .string b, .string d] t)) := (Below.refl w.heap.size w).alloc (Nat.le_refl _) _
  have hcell : ∀ j x, [a, b, d][j]? = some x → (w.alloc (.cells #[.string a, .string b, .string d] t)).cell? ⟨w.heap.size, 0 + j, none⟩ = some (.string x) := fun j x hx => by
    rw [Nat.zero_add, cell_of_row _ _ _ _ _ _ (heap_alloc_new w _)]
    match j, hx with
    | 0, hx => cases hx; rfl
    | 1, hx => cases hx; rfl
    | 2, hx => cases hx; rfl
    | j + 3, hx => simp at hx
  have hsz : w.heap.size < (w.alloc (.cells #[.string a, .string b, .string d] t)).heap.size := by rw [World.size_alloc]; omega
  have ea := Lib.size_eq a
  have eb := Lib.size_eq b
  have ed := Lib.size_eq d
  generalize w.alloc (.cells #[.string a, .string b, .string d] t) = W at *
  have J := Tryd.strings_Join w.heap.size 0 3 [a, b, d] ⟨#[32]⟩ W hcell hsz (by simp) (Nat.le_refl 3) (by
    show (Lib.join [a.data.toList, b.data.toList, d.data.toList] [32]).length ≤ _
    rw [join_three]
    have hm : (9000000 : Nat) ≤ maxLen := by decide
    simp only [List.length_append, List.length_cons]
    omega)
  have J2 : Calls Tryd.prog 42 #[.slice (some ⟨w.heap.size, 0, none⟩) 3 3, .string ⟨#[32]⟩] W fun e w' => e = .returned (.string (mkS (Lib.join [a.data.toList, b.data.toList, d.data.toList] [32]))) ∧ Below W.heap.size W w' := J
  have HJ := Lib.hid J2
  have HB := Lib.hid hbel
  clear J J2 hbel hcell hsz ea eb ed
  generalize mkS (Lib.join [a.data.toList, b.data.toList, d.data.toList] [32]) = R at *
  go_enter Tryd.func30, Tryd.ntmps30
  go_wp2_with fail
  refine HJ.out.mono ?_
  rintro e w' ⟨rfl, hb⟩
  go_wp2_with fail
  go_ret
  exact ⟨rfl, below_then HB.out hb⟩

theorem verS_size (v : Int) (h0 : -9223372036854775808 ≤ v) (h1 : v ≤ 9223372036854775807) : (verS v).size ≤ 1000000 := by
  have hlen := plainL_short v h0 h1
  rw [Lib.size_eq, verS_list]
  simp only [List.length_append, List.length_cons, List.length_nil]
  omega

theorem printRequest_any (m t : ByteArray) (v : Int) (h0 : -9223372036854775808 ≤ v) (h1 : v ≤ 9223372036854775807) (hm : m.size ≤ 1000000) (ht : t.size ≤ 1000000) (w : World) (HT : LinTabs w) :
    Calls Tryd.prog 11 #[.string m, .string t, .int .i64 v] w fun e w' => e = .returned (.string (prqS m t v)) ∧ Below w.heap.size w w' := by
  have hv := verS_size v h0 h1
  have C1 := Lib.hid (version_any v h0 h1 w HT.pow)
  have C2 := Lib.hid (fun W => join_any3 m t (verS v) hm ht hv W 9)
  have HJ := Lib.hid (prq_join m t v)
  clear hv HT
  generalize verS v = V at *
  generalize prqS m t v = P at *
  go_enter Tryd.func11, Tryd.ntmps11
  go_wp2_with fail
  refine C1.out.mono ?_
  rintro e w1 ⟨rfl, hb1⟩
  have HB1 := Lib.hid hb1
  clear hb1
  go_wp2_with fail
  refine (C2.out _).mono ?_
  rintro e w2 ⟨he, hb2⟩
  rw [HJ.out] at he
  subst he
  go_wp2_with fail
  go_ret
  exact ⟨rfl, below_then HB1.out hb2⟩

theorem printStatus_any (c : Int) (r : ByteArray) (v : Int) (g0 : -9223372036854775808 ≤ c) (g1 : c ≤ 9223372036854775807) (h0 : -9223372036854775808 ≤ v) (h1 : v ≤ 9223372036854775807) (hr : r.size ≤ 1000000) (w : World) (HT : LinTabs w) :
    Calls Tryd.prog 13 #[.int .i64 c, .string r, .int .i64 v] w fun e w' => e = .returned (.string (pstS c r v)) ∧ Below w.heap.size w w' := by
  have hv := verS_size v h0 h1
  have hc : (mkS (plainL c)).size ≤ 1000000 := by
    have := plainL_short c g0 g1
    rw [mkS_size]; omega
  have HP := Lib.hid HT.pow
  have C1 := Lib.hid (version_any v h0 h1 w HT.pow)
  have C2 := Lib.hid (fun W (hW : Below w.heap.size w W) => plain_any c g0 g1 W (tab_below HP.out hW))
  have C3 := Lib.hid (fun W => join_any3 (verS v) (mkS (plainL c)) r hv hc hr W 9)
  have HJ := Lib.hid (pst_join c r v)
  clear hv hc HT HP
  generalize verS v = V at *
  generalize mkS (plainL c) = D at *
  generalize pstS c r v = P at *
  go_enter Tryd.func13, Tryd.ntmps13
  go_wp2_with fail
  refine C1.out.mono ?_
  rintro e w1 ⟨rfl, hb1⟩
  have HB1 := Lib.hid hb1
  clear hb1
  go_wp2_with fail
  refine (C2.out _ HB1.out).mono ?_
  rintro e w2 ⟨rfl, hb2⟩
  have HB2 := Lib.hid (below_then HB1.out hb2)
  clear hb2
  go_wp2_with fail
  refine (C3.out _).mono ?_
  rintro e w3 ⟨he, hb3⟩
  rw [HJ.out] at he
  subst he
  go_wp2_with fail
  go_ret
  exact ⟨rfl, below_then HB2.out hb3⟩

theorem saf_index (W : World) (k : Int) (h0 : 0 ≤ k) (h1 : k < 4) {v : Value} (h : safVs.toArray[k.toNat]? = some v) : (Instr.index 48 (.agg safVs.toArray) (.int .i64 k)).run Tryd.prog W = .ok v W :=
  run_index_one Tryd.underlying48 Tryd.underlying9 rfl (by kernel_rfl) _ _ _ h0 h1 _ h _
set_option maxHeartbeats 2000000 in
theorem safe_any (m : ByteArray) (w : World) (HT : LinTabs w) :
    Calls Tryd.prog 15 #[.string m] w fun e w' => e = .returned (.bool (safeB m)) ∧ Below w.heap.size w w' := by
  obtain ⟨ty, fr, hblk⟩ := var_block (g := 0) (by kernel_rfl) HT.safe
  have HM : Hid ((Tryd.prog.info? 48).map (·.size) = some safVs.toArray.size) := by show _ = _; rw [show safVs.toArray.size = 4 from rfl]; kernel_rfl
  have HB := Lib.hid hblk
  have HS : Hid (safeB m = ((((m.toList == [71, 69, 84] || m.toList == [72, 69, 65, 68]) || m.toList == [79, 80, 84, 73, 79, 78, 83]) || m.toList == [84, 82, 65, 67, 69]))) := rfl
  generalize safeB m = S at *
  have hi0 := fun W => saf_index W 0 (by decide) (by decide) (show _ = some (Value.string ⟨#[71, 69, 84]⟩) from rfl)
  have hi1 := fun W => saf_index W 1 (by decide) (by decide) (show _ = some (Value.string ⟨#[72, 69, 65, 68]⟩) from rfl)
  have hi2 := fun W => saf_index W 2 (by decide) (by decide) (show _ = some (Value.string ⟨#[79, 80, 84, 73, 79, 78, 83]⟩) from rfl)
  have hi3 := fun W => saf_index W 3 (by decide) (by decide) (show _ = some (Value.string ⟨#[84, 82, 65, 67, 69]⟩) from rfl)
  generalize safVs.toArray = LA at *
  have both : ∀ t : Bool, t = true ∨ t = false := fun t => by cases t <;> simp
  clear hblk HT
  go_enter Tryd.func15, Tryd.ntmps15
  go_wp2_with (refine wpList_load_row rfl _ _ rfl 0 rfl ty LA fr _ HB.out Tryd.underlying48 rfl HM.out ?_)
  go_loopw [6] (fun i wr => ∃ k : Int, 0 ≤ k ∧ k ≤ 4 ∧ i = .int .i64 k ∧ Hid ((0 < k → (m.toList == [71, 69, 84]) = false) ∧ (1 < k → (m.toList == [72, 69, 65, 68]) = false) ∧ (2 < k → (m.toList == [79, 80, 84, 73, 79, 78, 83]) = false) ∧ (3 < k → (m.toList == [84, 82, 65, 67, 69]) = false)) ∧ wr = w) (fun i _ => 4 - (intOf i).toNat)
  case atStart => exact ⟨0, by decide, by decide, rfl, ⟨fun h => by omega, fun h => by omega, fun h => by omega, fun h => by omega⟩, rfl⟩
  case round =>
    obtain ⟨k, hk0, hk1, rfl, hf, rfl⟩ := hrel
    have hk : k = 0 ∨ k = 1 ∨ k = 2 ∨ k = 3 ∨ k = 4 := by omega
    rcases hk with rfl | rfl | rfl | rfl | rfl
    · rcases both (m.toList == [71, 69, 84]) with h | h
      · have HR : Hid (S = true) := by show _ = _; rw [HS.out, h]; simp
        clear hf
        go_wp2_with fail
        go_ret
        exact ⟨by rw [HR.out]; rfl, Below.refl _ _⟩
      · have HN : Hid ((0 < (0 : Int) + 1 → (m.toList == [71, 69, 84]) = false) ∧ (1 < (0 : Int) + 1 → (m.toList == [72, 69, 65, 68]) = false) ∧ (2 < (0 : Int) + 1 → (m.toList == [79, 80, 84, 73, 79, 78, 83]) = false) ∧ (3 < (0 : Int) + 1 → (m.toList == [84, 82, 65, 67, 69]) = false)) := ⟨fun _ => h, fun h => by omega, fun h => by omega, fun h => by omega⟩
        clear hf
        go_wp2_with fail
        go_roundw
        case rel => exact ⟨0 + 1, by decide, by decide, by go_num, HN, trivial⟩
        case measure => decide
    · rcases both (m.toList == [72, 69, 65, 68]) with h | h
      · have HR : Hid (S = true) := by show _ = _; rw [HS.out, h]; simp
        clear hf
        go_wp2_with fail
        go_ret
        exact ⟨by rw [HR.out]; rfl, Below.refl _ _⟩
      · have HN : Hid ((0 < (1 : Int) + 1 → (m.toList == [71, 69, 84]) = false) ∧ (1 < (1 : Int) + 1 → (m.toList == [72, 69, 65, 68]) = false) ∧ (2 < (1 : Int) + 1 → (m.toList == [79, 80, 84, 73, 79, 78, 83]) = false) ∧ (3 < (1 : Int) + 1 → (m.toList == [84, 82, 65, 67, 69]) = false)) := ⟨fun h => hf.out.1 (by decide), fun _ => h, fun h => by omega, fun h => by omega⟩
        clear hf
        go_wp2_with fail
        go_roundw
        case rel => exact ⟨1 + 1, by decide, by decide, by go_num, HN, trivial⟩
        case measure => decide
    · rcases both (m.toList == [79, 80, 84, 73, 79, 78, 83]) with h | h
      · have HR : Hid (S = true) := by show _ = _; rw [HS.out, h]; simp
        clear hf
        go_wp2_with fail
        go_ret
        exact ⟨by rw [HR.out]; rfl, Below.refl _ _⟩
      · have HN : Hid ((0 < (2 : Int) + 1 → (m.toList == [71, 69, 84]) = false) ∧ (1 < (2 : Int) + 1 → (m.toList == [72, 69, 65, 68]) = false) ∧ (2 < (2 : Int) + 1 → (m.toList == [79, 80, 84, 73, 79, 78, 83]) = false) ∧ (3 < (2 : Int) + 1 → (m.toList == [84, 82, 65, 67, 69]) = false)) := ⟨fun h => hf.out.1 (by decide), fun h => hf.out.2.1 (by decide), fun _ => h, fun h => by omega⟩
        clear hf
        go_wp2_with fail
        go_roundw
        case rel => exact ⟨2 + 1, by decide, by decide, by go_num, HN, trivial⟩
        case measure => decide
    · rcases both (m.toList == [84, 82, 65, 67, 69]) with h | h
      · have HR : Hid (S = true) := by show _ = _; rw [HS.out, h]; simp
        clear hf
        go_wp2_with fail
        go_ret
        exact ⟨by rw [HR.out]; rfl, Below.refl _ _⟩
      · have HN : Hid ((0 < (3 : Int) + 1 → (m.toList == [71, 69, 84]) = false) ∧ (1 < (3 : Int) + 1 → (m.toList == [72, 69, 65, 68]) = false) ∧ (2 < (3 : Int) + 1 → (m.toList == [79, 80, 84, 73, 79, 78, 83]) = false) ∧ (3 < (3 : Int) + 1 → (m.toList == [84, 82, 65, 67, 69]) = false)) := ⟨fun h => hf.out.1 (by decide), fun h => hf.out.2.1 (by decide), fun h => hf.out.2.2.1 (by decide), fun _ => h⟩
        clear hf
        go_wp2_with fail
        go_roundw
        case rel => exact ⟨3 + 1, by decide, by decide, by go_num, HN, trivial⟩
        case measure => decide
    · have HR : Hid (S = false) := by
        obtain ⟨f0, f1, f2, f3⟩ := hf.out
        show _ = _
        rw [HS.out, f0 (by decide), f1 (by decide), f2 (by decide), f3 (by decide)]; rfl
      clear hf
      go_wp2_with fail
      go_ret
      exact ⟨by rw [HR.out]; rfl, Below.refl _ _⟩

theorem rea_index (W : World) (k : Int) (h0 : 0 ≤ k) (h1 : k < 5) {cs : Array Value} (h : reaVs.toArray.extract (k.toNat * 2) (k.toNat * 2 + 2) = cs) : (Instr.index 51 (.agg reaVs.toArray) (.int .i64 k)).run Tryd.prog W = .ok (.agg cs) W := by
  rw [run_index_agg (m := 2) Tryd.underlying51 Tryd.underlying50 rfl (by kernel_rfl) _ _ _ h0 h1, h]
set_option maxHeartbeats 4000000 in
set_option maxRecDepth 100000 in
theorem usual_any (c : Int) (w : World) (HT : LinTabs w) :
    Calls Tryd.prog 17 #[.int .i64 c] w fun e w' => e = .returned (.string (usuS c)) ∧ Below w.heap.size w w' := by
  obtain ⟨ty, fr, hblk⟩ := var_block (g := 1) (by kernel_rfl) HT.reasons
  have HM : Hid ((Tryd.prog.info? 51).map (·.size) = some reaVs.toArray.size) := by show _ = _; rw [show reaVs.toArray.size = 10 from rfl]; kernel_rfl
  have HB := Lib.hid hblk
  have HS : Hid (usuS c = (if c = 200 then (⟨#[79, 75]⟩ : ByteArray) else if c = 304 then (⟨#[78, 111, 116, 32, 77, 111, 100, 105, 102, 105, 101, 100]⟩ : ByteArray) else if c = 400 then (⟨#[66, 97, 100, 32, 82, 101, 113, 117, 101, 115, 116]⟩ : ByteArray) else if c = 502 then (⟨#[66, 97, 100, 32, 71, 97, 116, 101, 119, 97, 121]⟩ : ByteArray) else if c = 504 then (⟨#[71, 97, 116, 101, 119, 97, 121, 32, 84, 105, 109, 101, 111, 117, 116]⟩ : ByteArray) else ⟨#[]⟩)) := rfl
  generalize usuS c = S at *
  have hi0 := fun W => rea_index W 0 (by decide) (by decide) (show _ = #[Value.int .i64 200, Value.string ⟨#[79, 75]⟩] from rfl)
  have hi1 := fun W => rea_index W 1 (by decide) (by decide) (show _ = #[Value.int .i64 304, Value.string ⟨#[78, 111, 116, 32, 77, 111, 100, 105, 102, 105, 101, 100]⟩] from rfl)
  have hi2 := fun W => rea_index W 2 (by decide) (by decide) (show _ = #[Value.int .i64 400, Value.string ⟨#[66, 97, 100, 32, 82, 101, 113, 117, 101, 115, 116]⟩] from rfl)
  have hi3 := fun W => rea_index W 3 (by decide) (by decide) (show _ = #[Value.int .i64 502, Value.string ⟨#[66, 97, 100, 32, 71, 97, 116, 101, 119, 97, 121]⟩] from rfl)
  have hi4 := fun W => rea_index W 4 (by decide) (by decide) (show _ = #[Value.int .i64 504, Value.string ⟨#[71, 97, 116, 101, 119, 97, 121, 32, 84, 105, 109, 101, 111, 117, 116]⟩] from rfl)
  generalize reaVs.toArray = LA at *
  clear hblk HT
  go_enter Tryd.func17, Tryd.ntmps17
  go_wp2_with (refine wpList_load_row rfl _ _ rfl 1 rfl ty LA fr _ HB.out Tryd.underlying51 rfl HM.out ?_)
  go_loopw [6] (fun i wr => ∃ k : Int, 0 ≤ k ∧ k ≤ 5 ∧ i = .int .i64 k ∧ Hid ((0 < k → ¬ c = 200) ∧ (1 < k → ¬ c = 304) ∧ (2 < k → ¬ c = 400) ∧ (3 < k → ¬ c = 502) ∧ (4 < k → ¬ c = 504)) ∧ Below w.heap.size w wr) (fun i _ => 5 - (intOf i).toNat)
  case atStart => exact ⟨0, by decide, by decide, rfl, ⟨fun h => by omega, fun h => by omega, fun h => by omega, fun h => by omega, fun h => by omega⟩, Below.refl _ _⟩
  case round =>
    obtain ⟨k, hk0, hk1, rfl, hf, hbel⟩ := hrel
    have hk : k = 0 ∨ k = 1 ∨ k = 2 ∨ k = 3 ∨ k = 4 ∨ k = 5 := by omega
    rcases hk with rfl | rfl | rfl | rfl | rfl | rfl
    · have hbx := hbel.alloc hbel.size (.cells #[.int .i64 200, .string ⟨#[79, 75]⟩] 50)
      have HBX := Lib.hid hbx
      clear hbx
      by_cases h : c = 200
      · have HR : Hid (S = ⟨#[79, 75]⟩) := by show _ = _; rw [HS.out, h]; rfl
        have h' : (200 : Int) = c := h.symm
        clear hf HS
        subst h
        go_wp2_with fail
        go_ret
        exact ⟨by rw [HR.out]; rfl, HBX.out⟩
      · have HN : Hid ((0 < (0 : Int) + 1 → ¬ c = 200) ∧ (1 < (0 : Int) + 1 → ¬ c = 304) ∧ (2 < (0 : Int) + 1 → ¬ c = 400) ∧ (3 < (0 : Int) + 1 → ¬ c = 502) ∧ (4 < (0 : Int) + 1 → ¬ c = 504)) := ⟨fun _ => h, fun h => by omega, fun h => by omega, fun h => by omega, fun h => by omega⟩
        have h' : ¬ (200 : Int) = c := fun e => h e.symm
        clear hf HS
        go_wp2_with fail
        go_roundw
        case rel => exact ⟨0 + 1, by decide, by decide, by go_num, HN, HBX.out⟩
        case measure => decide
    · have hbx := hbel.alloc hbel.size (.cells #[.int .i64 304, .string ⟨#[78, 111, 116, 32, 77, 111, 100, 105, 102, 105, 101, 100]⟩] 50)
      have HBX := Lib.hid hbx
      clear hbx
      by_cases h : c = 304
      · have HR : Hid (S = ⟨#[78, 111, 116, 32, 77, 111, 100, 105, 102, 105, 101, 100]⟩) := by show _ = _; rw [HS.out, h]; rfl
        have h' : (304 : Int) = c := h.symm
        clear hf HS
        subst h
        go_wp2_with fail
        go_ret
        exact ⟨by rw [HR.out]; rfl, HBX.out⟩
      · have HN : Hid ((0 < (1 : Int) + 1 → ¬ c = 200) ∧ (1 < (1 : Int) + 1 → ¬ c = 304) ∧ (2 < (1 : Int) + 1 → ¬ c = 400) ∧ (3 < (1 : Int) + 1 → ¬ c = 502) ∧ (4 < (1 : Int) + 1 → ¬ c = 504)) := ⟨fun h => hf.out.1 (by decide), fun _ => h, fun h => by omega, fun h => by omega, fun h => by omega⟩
        have h' : ¬ (304 : Int) = c := fun e => h e.symm
        clear hf HS
        go_wp2_with fail
        go_roundw
        case rel => exact ⟨1 + 1, by decide, by decide, by go_num, HN, HBX.out⟩
        case measure => decide
    · have hbx := hbel.alloc hbel.size (.cells #[.int .i64 400, .string ⟨#[66, 97, 100, 32, 82, 101, 113, 117, 101, 115, 116]⟩] 50)
      have HBX := Lib.hid hbx
      clear hbx
      by_cases h : c = 400
      · have HR : Hid (S = ⟨#[66, 97, 100, 32, 82, 101, 113, 117, 101, 115, 116]⟩) := by show _ = _; rw [HS.out, h]; rfl
        have h' : (400 : Int) = c := h.symm
        clear hf HS
        subst h
        go_wp2_with fail
        go_ret
        exact ⟨by rw [HR.out]; rfl, HBX.out⟩
      · have HN : Hid ((0 < (2 : Int) + 1 → ¬ c = 200) ∧ (1 < (2 : Int) + 1 → ¬ c = 304) ∧ (2 < (2 : Int) + 1 → ¬ c = 400) ∧ (3 < (2 : Int) + 1 → ¬ c = 502) ∧ (4 < (2 : Int) + 1 → ¬ c = 504)) := ⟨fun h => hf.out.1 (by decide), fun h => hf.out.2.1 (by decide), fun _ => h, fun h => by omega, fun h => by omega⟩
        have h' : ¬ (400 : Int) = c := fun e => h e.symm
        clear hf HS
        go_wp2_with fail
        go_roundw
        case rel => exact ⟨2 + 1, by decide, by decide, by go_num, HN, HBX.out⟩
        case measure => decide
    · have hbx := hbel.alloc hbel.size (.cells #[.int .i64 502, .string ⟨#[66, 97, 100, 32, 71, 97, 116, 101, 119, 97, 121]⟩] 50)
      have HBX := Lib.hid hbx
      clear hbx
      by_cases h : c = 502
      · have HR : Hid (S = ⟨#[66, 97, 100, 32, 71, 97, 116, 101, 119, 97, 121]⟩) := by show _ = _; rw [HS.out, h]; rfl
        have h' : (502 : Int) = c := h.symm
        clear hf HS
        subst h
        go_wp2_with fail
        go_ret
        exact ⟨by rw [HR.out]; rfl, HBX.out⟩
      · have HN : Hid ((0 < (3 : Int) + 1 → ¬ c = 200) ∧ (1 < (3 : Int) + 1 → ¬ c = 304) ∧ (2 < (3 : Int) + 1 → ¬ c = 400) ∧ (3 < (3 : Int) + 1 → ¬ c = 502) ∧ (4 < (3 : Int) + 1 → ¬ c = 504)) := ⟨fun h => hf.out.1 (by decide), fun h => hf.out.2.1 (by decide), fun h => hf.out.2.2.1 (by decide), fun _ => h, fun h => by omega⟩
        have h' : ¬ (502 : Int) = c := fun e => h e.symm
        clear hf HS
        go_wp2_with fail
        go_roundw
        case rel => exact ⟨3 + 1, by decide, by decide, by go_num, HN, HBX.out⟩
        case measure => decide
    · have hbx := hbel.alloc hbel.size (.cells #[.int .i64 504, .string ⟨#[71, 97, 116, 101, 119, 97, 121, 32, 84, 105, 109, 101, 111, 117, 116]⟩] 50)
      have HBX := Lib.hid hbx
      clear hbx
      by_cases h : c = 504
      · have HR : Hid (S = ⟨#[71, 97, 116, 101, 119, 97, 121, 32, 84, 105, 109, 101, 111, 117, 116]⟩) := by show _ = _; rw [HS.out, h]; rfl
        have h' : (504 : Int) = c := h.symm
        clear hf HS
        subst h
        go_wp2_with fail
        go_ret
        exact ⟨by rw [HR.out]; rfl, HBX.out⟩
      · have HN : Hid ((0 < (4 : Int) + 1 → ¬ c = 200) ∧ (1 < (4 : Int) + 1 → ¬ c = 304) ∧ (2 < (4 : Int) + 1 → ¬ c = 400) ∧ (3 < (4 : Int) + 1 → ¬ c = 502) ∧ (4 < (4 : Int) + 1 → ¬ c = 504)) := ⟨fun h => hf.out.1 (by decide), fun h => hf.out.2.1 (by decide), fun h => hf.out.2.2.1 (by decide), fun h => hf.out.2.2.2.1 (by decide), fun _ => h⟩
        have h' : ¬ (504 : Int) = c := fun e => h e.symm
        clear hf HS
        go_wp2_with fail
        go_roundw
        case rel => exact ⟨4 + 1, by decide, by decide, by go_num, HN, HBX.out⟩
        case measure => decide
    · have HR : Hid (S = ⟨#[]⟩) := by
        obtain ⟨f0, f1, f2, f3, f4⟩ := hf.out
        show _ = _
        rw [HS.out, if_neg (f0 (by decide)), if_neg (f1 (by decide)), if_neg (f2 (by decide)), if_neg (f3 (by decide)), if_neg (f4 (by decide))]
      clear hf HS
      go_wp2_with fail
      go_ret
      exact ⟨by rw [HR.out]; rfl, hbel⟩


end Go.Proofs.YtbmlldjkfpekkaaDoor
