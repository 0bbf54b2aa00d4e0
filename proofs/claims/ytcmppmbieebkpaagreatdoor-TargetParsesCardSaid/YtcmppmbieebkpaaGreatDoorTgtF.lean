/-
  Contract of Path of package target.
-/
import Derived.Test.YtcmppmbieebkpaaGreatDoorTgtB
import Derived.Test.YtcmppmbieebkpaaGreatDoorTgtC
import Derived.Test.YtcmppmbieebkpaaGreatDoorTgtD
import Derived.Test.YtcmppmbieebkpaaGreatDoorTarE
import Derived.Deep.RegionHeld3
namespace Go.Proofs.YtcmppmbieebkpaaGreatDoor
open Go.RowKit

theorem prefix_slash (s : ByteArray) : Lib.hasPrefix s.data.toList (⟨#[47]⟩ : ByteArray).data.toList = (s.data.toList.head? == some 47) := by
  unfold Lib.hasPrefix
  rw [show (⟨#[47]⟩ : ByteArray).data.toList = [47] from rfl]
  cases s.data.toList with
  | nil => rfl
  | cons c r =>
    rw [List.head?_cons]
    by_cases h : c = 47
    · subst h; simp [List.isPrefixOf]
    · have h1 : (47 == c) = false := beq_eq_false_iff_ne.2 (Ne.symm h)
      have h2 : (c == 47) = false := beq_eq_false_iff_ne.2 h
      simp [List.isPrefixOf, h1, h]

/-- Where the query begins, or the end. -/
def qAt (s : ByteArray) : Nat := if Lib.indexByte s.data.toList 63 = -1 then s.size else (Lib.indexByte s.data.toList 63).toNat
theorem q_parts (s : ByteArray) : qAt s ≤ s.size ∧ s.extract 0 (qAt s) = cutA s 63 ∧
    (plnO moreQ (s.extract (qAt s) s.size).data.toList = (plnO moreQ (cutZ s 63).data.toList).map fun q => if cutOk s 63 then 63 :: q else []) ∧
    ((Lib.indexByte s.data.toList 63 = -1 ∧ qAt s = s.size) ∨ Lib.indexByte s.data.toList 63 = (qAt s : Int)) := by
  have hx : Lib.indexByte s.data.toList 63 = idxOf s 63 := rfl
  rcases idx_cases s 63 (by omega) (by omega) with ⟨hn, _⟩ | ⟨i, hi, hlt, hc, _⟩
  · have hq : qAt s = s.size := by unfold qAt; rw [hx, hn]; rfl
    obtain ⟨h1, h2, h3⟩ := cut_miss hn
    refine ⟨by omega, ?_, ?_, .inl ⟨by rw [hx, hn], hq⟩⟩
    · rw [h1, hq]; rw [← mkS_self (s.extract 0 s.size), Lib.extract_data, List.drop_zero, Nat.sub_zero, Lib.size_eq, List.take_length, mkS_self]
    · rw [h2, h3, hq]
      have : (s.extract s.size s.size).data.toList = [] := by rw [Lib.extract_data]; simp
      rw [this, plnO_nil]; rfl
  · have hq : qAt s = i := by
      unfold qAt
      rw [hx, hi, if_neg (by omega), Int.toNat_natCast]
    obtain ⟨h1, h2, h3⟩ := cut_hit hi
    refine ⟨by omega, by rw [h1, hq], ?_, .inr (by rw [hx, hi, hq])⟩
    rw [h2, h3, hq]
    have h63 : s[i] = 63 := UInt8.toNat_inj.1 (by show _ = 63; omega)
    have e : (s.extract i s.size).data.toList = 63 :: (s.extract (i + 1) s.size).data.toList := by
      rw [Lib.extract_data, Lib.extract_data, drop_at s i hlt, h63, List.take_of_length_le (by rw [List.length_cons, List.length_drop, ← Lib.size_eq]; omega), List.take_of_length_le (by rw [List.length_drop, ← Lib.size_eq]; omega)]
    rw [e, plnO_byte (by decide) (by decide)]
    rfl

theorem path_parts (s : ByteArray) (h : s.data.toList.head? = some 47) : pathO s = (plnO moreP (s.extract 0 (qAt s)).data.toList).bind fun p => (plnO moreQ (s.extract (qAt s) s.size).data.toList).map fun q => dotsL p ++ q := by
  obtain ⟨_, h2, h3, _⟩ := q_parts s
  unfold pathO
  rw [if_pos h, h2, h3]
  cases plnO moreP (cutA s 63).data.toList with
  | none => rfl
  | some p =>
    cases plnO moreQ (cutZ s 63).data.toList with
    | none => rfl
    | some q => rfl

set_option maxHeartbeats 8000000 in
set_option maxRecDepth 100000 in
theorem path_any (s : ByteArray) (w : World) (hs : s.size ≤ 1000000) :
    Calls Tryz.prog 6 #[.string s] w fun e w' => e = .returned (.tuple #[.string (mkS (pathV s)), .int .i64 (pathE s)]) ∧ Below w.heap.size w w' := by
  by_cases k1 : 8192 < s.size
  · have HR : Hid (pathV s = [] ∧ pathE s = 4) := by
      refine ⟨?_, ?_⟩
      · unfold pathV; rw [if_pos k1]
      · unfold pathE; rw [if_pos k1]
    have k1' : (8192 : Int) < (s.size : Int) := by omega
    go_enter Tryz.func6, Tryz.ntmps6
    go_wp2_with fail
    go_ret2
    exact ⟨by rw [HR.out.1, HR.out.2]; rfl, Below.refl _ _⟩
  have k1' : ¬ (8192 : Int) < (s.size : Int) := by omega
  have cpre := fun W => Tryz.strings_HasPrefix s ⟨#[47]⟩ W
  rw [prefix_slash] at cpre
  by_cases k2 : s.data.toList.head? = some 47
  · rw [k2] at cpre
    have CPRE := Lib.hid cpre
    have hO := path_parts s k2
    obtain ⟨q1, q2, _, q4⟩ := q_parts s
    have hph : (s.extract 0 (qAt s)).data.toList.head? = some 47 := by rw [q2]; exact cutA_head k2
    have hz1 : (s.extract 0 (qAt s)).size ≤ s.size := by rw [Lib.size_eq, Lib.extract_data, List.length_take, List.length_drop, ← Lib.size_eq]; omega
    have hz2 : (s.extract (qAt s) s.size).size ≤ s.size := by rw [extr_size]; omega
    have ci := fun W => Tryz.strings_Index_one s 63 W
    generalize qAt s = Q at *
    obtain ⟨HD, hHD⟩ : ∃ HD, s.extract 0 Q = HD := ⟨_, rfl⟩
    obtain ⟨TL, hTL⟩ : ∃ TL, s.extract Q s.size = TL := ⟨_, rfl⟩
    rw [hHD] at hO hph hz1
    rw [hTL] at hO hz2
    generalize hI : Lib.indexByte s.data.toList 63 = I at *
    have CI := Lib.hid ci
    have HP := Lib.hid (pathR_of (s := s) (by omega))
    have q1' : (Q : Int) ≤ (s.size : Int) := by omega
    clear cpre ci q2 hI k1 k2
    have up := fun W p1 n1 c1 p2 n2 c2 A1 A2 => unescape_any moreP [setL, setD, setM, setP] [setL, setD, setM] anyP anyM HD W (by omega) p1 n1 c1 p2 n2 c2 A1 A2
    have uq := fun W p1 n1 c1 p2 n2 c2 A1 A2 => unescape_any moreQ [setL, setD, setM, setP, setQ] [setL, setD, setM] anyQ anyM TL W (by omega) p1 n1 c1 p2 n2 c2 A1 A2
    rcases q4 with ⟨q5, q6⟩ | q5
    · have q7 : ¬ (0 : Int) ≤ I := by omega
      have sl1 : ∀ W, (Instr.slice 9 (.string s) none (some (.int .i64 (s.size : Int))) none).run Tryz.prog W = .ok (.string HD) W := fun W => by
        rw [run_slice_string_h W 9 s Tryz.underlying9 .i64 (s.size : Int) (by omega) (by omega), Int.toNat_natCast, ← q6, hHD]
      have sl2 : ∀ W, (Instr.slice 9 (.string s) (some (.int .i64 (s.size : Int))) none none).run Tryz.prog W = .ok (.string TL) W := fun W => by
        rw [run_slice_string_l W 9 s Tryz.underlying9 .i64 (s.size : Int) (by omega) (by omega), Int.toNat_natCast, ← hTL, q6]
      clear hHD hTL
      cases ha : plnO moreP HD.data.toList with
      | none =>
        rw [ha] at hO
        rw [(pln_none ha).1, (pln_none ha).2] at up
        have HR := Lib.hid (HP.out _ hO)
        generalize plnS moreQ TL = qs at *
        generalize plnB moreQ TL = qb at *
        have UP := Lib.hid up
        have UQ := Lib.hid uq
        clear hO up uq ha hph
        go_enter Tryz.func6, Tryz.ntmps6
        go_wp2_with (first | (go_at_call 18; refine (CPRE.out _).mono ?_; rintro e w' ⟨rfl, rfl⟩) | (go_at_call 19; refine (CI.out _).mono ?_; rintro e w' ⟨rfl, rfl⟩))
        refine (anyOf_three _ _ _ [setL, setD, setM] (by kernel_rfl) _ _).mono ?_
        rintro e w1 ⟨p1, A1, n1, c1, rfl, hp1, hL1, hb1⟩
        go_wp2_with fail
        go_region_held3 (fun _ => True) (trivial) (first | (go_at_call 20; refine (anyOf_four_d _ _ _ _ [setL, setD, setM, setP] (by kernel_rfl) _ _).mono ?_; rintro e w2 ⟨p2, A2, n2, c2, rfl, hp2, hL2, hb2⟩) | (go_at_call 21; refine (UP.out _ _ _ _ _ _ _ _ _ (cell_kept hb2 hp1) (hL1.below hb2) hp2 hL2).mono ?_; rintro e w3 ⟨rfl, hb3⟩))
        have hb13 := below_then hb2 hb3
        have HP1 := Lib.hid (cell_kept hb13 hp1)
        have HL1 := Lib.hid (hL1.below hb13)
        have HB := Lib.hid (below_then hb1 hb13)
        clear hp1 hL1 hp2 hL2 hb1 hb2 hb3 hb13 sl1
        go_wp2_with fail
        go_region_held3 (fun _ => True) (trivial) (first | (go_at_call 20; refine (anyOf_five_d _ _ _ _ _ [setL, setD, setM, setP, setQ] (by kernel_rfl) _ _).mono ?_; rintro e w4 ⟨p2, A2, n2, c2, rfl, hp2, hL2, hb2⟩) | (go_at_call 21; refine (UQ.out _ _ _ _ _ _ _ _ _ (cell_kept hb2 HP1.out) (HL1.out.below hb2) hp2 hL2).mono ?_; rintro e w5 ⟨rfl, hb3⟩))
        have HB2 := Lib.hid (below_then HB.out (below_then hb2 hb3))
        clear hp2 hL2 hb2 hb3 sl2
        go_wp2_with fail
        go_ret2
        exact ⟨by rw [HR.out.1, HR.out.2]; rfl, HB2.out⟩
      | some p =>
        rw [ha] at hO
        rw [(pln_some ha).1, (pln_some ha).2] at up
        have hp47 := pln_head ha hph
        have hpl := pln_len8 ha
        rw [← Lib.size_eq] at hpl
        cases hz : plnO moreQ TL.data.toList with
        | none =>
          rw [hz] at hO
          rw [(pln_none hz).1, (pln_none hz).2] at uq
          have HR := Lib.hid (HP.out _ hO)
          generalize mkS p = P at *
          have UP := Lib.hid up
          have UQ := Lib.hid uq
          clear hO up uq ha hz hph hp47 hpl
          go_enter Tryz.func6, Tryz.ntmps6
          go_wp2_with (first | (go_at_call 18; refine (CPRE.out _).mono ?_; rintro e w' ⟨rfl, rfl⟩) | (go_at_call 19; refine (CI.out _).mono ?_; rintro e w' ⟨rfl, rfl⟩))
          refine (anyOf_three _ _ _ [setL, setD, setM] (by kernel_rfl) _ _).mono ?_
          rintro e w1 ⟨p1, A1, n1, c1, rfl, hp1, hL1, hb1⟩
          go_wp2_with fail
          go_region_held3 (fun _ => True) (trivial) (first | (go_at_call 20; refine (anyOf_four_d _ _ _ _ [setL, setD, setM, setP] (by kernel_rfl) _ _).mono ?_; rintro e w2 ⟨p2, A2, n2, c2, rfl, hp2, hL2, hb2⟩) | (go_at_call 21; refine (UP.out _ _ _ _ _ _ _ _ _ (cell_kept hb2 hp1) (hL1.below hb2) hp2 hL2).mono ?_; rintro e w3 ⟨rfl, hb3⟩))
          have hb13 := below_then hb2 hb3
          have HP1 := Lib.hid (cell_kept hb13 hp1)
          have HL1 := Lib.hid (hL1.below hb13)
          have HB := Lib.hid (below_then hb1 hb13)
          clear hp1 hL1 hp2 hL2 hb1 hb2 hb3 hb13 sl1
          go_wp2_with fail
          go_region_held3 (fun _ => True) (trivial) (first | (go_at_call 20; refine (anyOf_five_d _ _ _ _ _ [setL, setD, setM, setP, setQ] (by kernel_rfl) _ _).mono ?_; rintro e w4 ⟨p2, A2, n2, c2, rfl, hp2, hL2, hb2⟩) | (go_at_call 21; refine (UQ.out _ _ _ _ _ _ _ _ _ (cell_kept hb2 HP1.out) (HL1.out.below hb2) hp2 hL2).mono ?_; rintro e w5 ⟨rfl, hb3⟩))
          have HB2 := Lib.hid (below_then HB.out (below_then hb2 hb3))
          clear hp2 hL2 hb2 hb3 sl2
          go_wp2_with fail
          go_ret2
          exact ⟨by rw [HR.out.1, HR.out.2]; rfl, HB2.out⟩
        | some q =>
          rw [hz] at hO
          rw [(pln_some hz).1, (pln_some hz).2] at uq
          have hql := pln_len8 hz
          rw [← Lib.size_eq] at hql
          have hdl : (dotsL p).length ≤ p.length := by
            cases p with
            | nil => cases hp47
            | cons c r =>
              simp only [List.head?_cons, Option.some.injEq] at hp47
              subst hp47
              exact dots_len r
          have cd := fun W => straighten_any (mkS p) W (by rw [mkS_list]; exact hp47) (by rw [mkS_size]; omega)
          rw [mkS_list] at cd
          have hd1 : ((mkS (dotsL p)).size : Int) ≤ 1000000 := by rw [mkS_size]; omega
          have hd2 : ((mkS q).size : Int) ≤ 1000000 := by rw [mkS_size]; omega
          have HR0 := HP.out _ hO
          have HR : Hid (mkS (pathV s) = mkS (dotsL p) ++ mkS q ∧ pathE s = 0) := by
            refine ⟨?_, HR0.1⟩
            rw [HR0.2, mkS_append]; rfl
          generalize mkS (dotsL p) = D at *
          generalize mkS q = QQ at *
          generalize mkS p = P at *
          have CD := Lib.hid cd
          have UP := Lib.hid up
          have UQ := Lib.hid uq
          clear hO HR0 cd up uq ha hz hph hp47 hpl hql hdl
          go_enter Tryz.func6, Tryz.ntmps6
          go_wp2_with (first | (go_at_call 18; refine (CPRE.out _).mono ?_; rintro e w' ⟨rfl, rfl⟩) | (go_at_call 19; refine (CI.out _).mono ?_; rintro e w' ⟨rfl, rfl⟩))
          refine (anyOf_three _ _ _ [setL, setD, setM] (by kernel_rfl) _ _).mono ?_
          rintro e w1 ⟨p1, A1, n1, c1, rfl, hp1, hL1, hb1⟩
          go_wp2_with fail
          go_region_held3 (fun _ => True) (trivial) (first | (go_at_call 20; refine (anyOf_four_d _ _ _ _ [setL, setD, setM, setP] (by kernel_rfl) _ _).mono ?_; rintro e w2 ⟨p2, A2, n2, c2, rfl, hp2, hL2, hb2⟩) | (go_at_call 21; refine (UP.out _ _ _ _ _ _ _ _ _ (cell_kept hb2 hp1) (hL1.below hb2) hp2 hL2).mono ?_; rintro e w3 ⟨rfl, hb3⟩))
          have hb13 := below_then hb2 hb3
          have HP1 := Lib.hid (cell_kept hb13 hp1)
          have HL1 := Lib.hid (hL1.below hb13)
          have HB := Lib.hid (below_then hb1 hb13)
          clear hp1 hL1 hp2 hL2 hb1 hb2 hb3 hb13 sl1
          go_wp2_with fail
          go_region_held3 (fun _ => True) (trivial) (first | (go_at_call 20; refine (anyOf_five_d _ _ _ _ _ [setL, setD, setM, setP, setQ] (by kernel_rfl) _ _).mono ?_; rintro e w4 ⟨p2, A2, n2, c2, rfl, hp2, hL2, hb2⟩) | (go_at_call 21; refine (UQ.out _ _ _ _ _ _ _ _ _ (cell_kept hb2 HP1.out) (HL1.out.below hb2) hp2 hL2).mono ?_; rintro e w5 ⟨rfl, hb3⟩))
          have HB2 := Lib.hid (below_then HB.out (below_then hb2 hb3))
          clear hp2 hL2 hb2 hb3 sl2
          go_wp2_with fail
          refine (CD.out _).mono ?_
          rintro e w6 ⟨rfl, hb6⟩
          go_wp2_with fail
          go_ret2
          exact ⟨by rw [HR.out.1, HR.out.2]; rfl, below_then HB2.out hb6⟩
    · have q7 : (0 : Int) ≤ (Q : Int) := by omega
      subst q5
      have sl1 : ∀ W, (Instr.slice 9 (.string s) none (some (.int .i64 (Q : Int))) none).run Tryz.prog W = .ok (.string HD) W := fun W => by
        rw [run_slice_string_h W 9 s Tryz.underlying9 .i64 (Q : Int) (by omega) (by omega), Int.toNat_natCast, hHD]
      have sl2 : ∀ W, (Instr.slice 9 (.string s) (some (.int .i64 (Q : Int))) none none).run Tryz.prog W = .ok (.string TL) W := fun W => by
        rw [run_slice_string_l W 9 s Tryz.underlying9 .i64 (Q : Int) (by omega) (by omega), Int.toNat_natCast, ← hTL]
      clear hHD hTL
      cases ha : plnO moreP HD.data.toList with
      | none =>
        rw [ha] at hO
        rw [(pln_none ha).1, (pln_none ha).2] at up
        have HR := Lib.hid (HP.out _ hO)
        generalize plnS moreQ TL = qs at *
        generalize plnB moreQ TL = qb at *
        have UP := Lib.hid up
        have UQ := Lib.hid uq
        clear hO up uq ha hph
        go_enter Tryz.func6, Tryz.ntmps6
        go_wp2_with (first | (go_at_call 18; refine (CPRE.out _).mono ?_; rintro e w' ⟨rfl, rfl⟩) | (go_at_call 19; refine (CI.out _).mono ?_; rintro e w' ⟨rfl, rfl⟩))
        refine (anyOf_three _ _ _ [setL, setD, setM] (by kernel_rfl) _ _).mono ?_
        rintro e w1 ⟨p1, A1, n1, c1, rfl, hp1, hL1, hb1⟩
        go_wp2_with fail
        go_region_held3 (fun _ => True) (trivial) (first | (go_at_call 20; refine (anyOf_four_d _ _ _ _ [setL, setD, setM, setP] (by kernel_rfl) _ _).mono ?_; rintro e w2 ⟨p2, A2, n2, c2, rfl, hp2, hL2, hb2⟩) | (go_at_call 21; refine (UP.out _ _ _ _ _ _ _ _ _ (cell_kept hb2 hp1) (hL1.below hb2) hp2 hL2).mono ?_; rintro e w3 ⟨rfl, hb3⟩))
        have hb13 := below_then hb2 hb3
        have HP1 := Lib.hid (cell_kept hb13 hp1)
        have HL1 := Lib.hid (hL1.below hb13)
        have HB := Lib.hid (below_then hb1 hb13)
        clear hp1 hL1 hp2 hL2 hb1 hb2 hb3 hb13 sl1
        go_wp2_with fail
        go_region_held3 (fun _ => True) (trivial) (first | (go_at_call 20; refine (anyOf_five_d _ _ _ _ _ [setL, setD, setM, setP, setQ] (by kernel_rfl) _ _).mono ?_; rintro e w4 ⟨p2, A2, n2, c2, rfl, hp2, hL2, hb2⟩) | (go_at_call 21; refine (UQ.out _ _ _ _ _ _ _ _ _ (cell_kept hb2 HP1.out) (HL1.out.below hb2) hp2 hL2).mono ?_; rintro e w5 ⟨rfl, hb3⟩))
        have HB2 := Lib.hid (below_then HB.out (below_then hb2 hb3))
        clear hp2 hL2 hb2 hb3 sl2
        go_wp2_with fail
        go_ret2
        exact ⟨by rw [HR.out.1, HR.out.2]; rfl, HB2.out⟩
      | some p =>
        rw [ha] at hO
        rw [(pln_some ha).1, (pln_some ha).2] at up
        have hp47 := pln_head ha hph
        have hpl := pln_len8 ha
        rw [← Lib.size_eq] at hpl
        cases hz : plnO moreQ TL.data.toList with
        | none =>
          rw [hz] at hO
          rw [(pln_none hz).1, (pln_none hz).2] at uq
          have HR := Lib.hid (HP.out _ hO)
          generalize mkS p = P at *
          have UP := Lib.hid up
          have UQ := Lib.hid uq
          clear hO up uq ha hz hph hp47 hpl
          go_enter Tryz.func6, Tryz.ntmps6
          go_wp2_with (first | (go_at_call 18; refine (CPRE.out _).mono ?_; rintro e w' ⟨rfl, rfl⟩) | (go_at_call 19; refine (CI.out _).mono ?_; rintro e w' ⟨rfl, rfl⟩))
          refine (anyOf_three _ _ _ [setL, setD, setM] (by kernel_rfl) _ _).mono ?_
          rintro e w1 ⟨p1, A1, n1, c1, rfl, hp1, hL1, hb1⟩
          go_wp2_with fail
          go_region_held3 (fun _ => True) (trivial) (first | (go_at_call 20; refine (anyOf_four_d _ _ _ _ [setL, setD, setM, setP] (by kernel_rfl) _ _).mono ?_; rintro e w2 ⟨p2, A2, n2, c2, rfl, hp2, hL2, hb2⟩) | (go_at_call 21; refine (UP.out _ _ _ _ _ _ _ _ _ (cell_kept hb2 hp1) (hL1.below hb2) hp2 hL2).mono ?_; rintro e w3 ⟨rfl, hb3⟩))
          have hb13 := below_then hb2 hb3
          have HP1 := Lib.hid (cell_kept hb13 hp1)
          have HL1 := Lib.hid (hL1.below hb13)
          have HB := Lib.hid (below_then hb1 hb13)
          clear hp1 hL1 hp2 hL2 hb1 hb2 hb3 hb13 sl1
          go_wp2_with fail
          go_region_held3 (fun _ => True) (trivial) (first | (go_at_call 20; refine (anyOf_five_d _ _ _ _ _ [setL, setD, setM, setP, setQ] (by kernel_rfl) _ _).mono ?_; rintro e w4 ⟨p2, A2, n2, c2, rfl, hp2, hL2, hb2⟩) | (go_at_call 21; refine (UQ.out _ _ _ _ _ _ _ _ _ (cell_kept hb2 HP1.out) (HL1.out.below hb2) hp2 hL2).mono ?_; rintro e w5 ⟨rfl, hb3⟩))
          have HB2 := Lib.hid (below_then HB.out (below_then hb2 hb3))
          clear hp2 hL2 hb2 hb3 sl2
          go_wp2_with fail
          go_ret2
          exact ⟨by rw [HR.out.1, HR.out.2]; rfl, HB2.out⟩
        | some q =>
          rw [hz] at hO
          rw [(pln_some hz).1, (pln_some hz).2] at uq
          have hql := pln_len8 hz
          rw [← Lib.size_eq] at hql
          have hdl : (dotsL p).length ≤ p.length := by
            cases p with
            | nil => cases hp47
            | cons c r =>
              simp only [List.head?_cons, Option.some.injEq] at hp47
              subst hp47
              exact dots_len r
          have cd := fun W => straighten_any (mkS p) W (by rw [mkS_list]; exact hp47) (by rw [mkS_size]; omega)
          rw [mkS_list] at cd
          have hd1 : ((mkS (dotsL p)).size : Int) ≤ 1000000 := by rw [mkS_size]; omega
          have hd2 : ((mkS q).size : Int) ≤ 1000000 := by rw [mkS_size]; omega
          have HR0 := HP.out _ hO
          have HR : Hid (mkS (pathV s) = mkS (dotsL p) ++ mkS q ∧ pathE s = 0) := by
            refine ⟨?_, HR0.1⟩
            rw [HR0.2, mkS_append]; rfl
          generalize mkS (dotsL p) = D at *
          generalize mkS q = QQ at *
          generalize mkS p = P at *
          have CD := Lib.hid cd
          have UP := Lib.hid up
          have UQ := Lib.hid uq
          clear hO HR0 cd up uq ha hz hph hp47 hpl hql hdl
          go_enter Tryz.func6, Tryz.ntmps6
          go_wp2_with (first | (go_at_call 18; refine (CPRE.out _).mono ?_; rintro e w' ⟨rfl, rfl⟩) | (go_at_call 19; refine (CI.out _).mono ?_; rintro e w' ⟨rfl, rfl⟩))
          refine (anyOf_three _ _ _ [setL, setD, setM] (by kernel_rfl) _ _).mono ?_
          rintro e w1 ⟨p1, A1, n1, c1, rfl, hp1, hL1, hb1⟩
          go_wp2_with fail
          go_region_held3 (fun _ => True) (trivial) (first | (go_at_call 20; refine (anyOf_four_d _ _ _ _ [setL, setD, setM, setP] (by kernel_rfl) _ _).mono ?_; rintro e w2 ⟨p2, A2, n2, c2, rfl, hp2, hL2, hb2⟩) | (go_at_call 21; refine (UP.out _ _ _ _ _ _ _ _ _ (cell_kept hb2 hp1) (hL1.below hb2) hp2 hL2).mono ?_; rintro e w3 ⟨rfl, hb3⟩))
          have hb13 := below_then hb2 hb3
          have HP1 := Lib.hid (cell_kept hb13 hp1)
          have HL1 := Lib.hid (hL1.below hb13)
          have HB := Lib.hid (below_then hb1 hb13)
          clear hp1 hL1 hp2 hL2 hb1 hb2 hb3 hb13 sl1
          go_wp2_with fail
          go_region_held3 (fun _ => True) (trivial) (first | (go_at_call 20; refine (anyOf_five_d _ _ _ _ _ [setL, setD, setM, setP, setQ] (by kernel_rfl) _ _).mono ?_; rintro e w4 ⟨p2, A2, n2, c2, rfl, hp2, hL2, hb2⟩) | (go_at_call 21; refine (UQ.out _ _ _ _ _ _ _ _ _ (cell_kept hb2 HP1.out) (HL1.out.below hb2) hp2 hL2).mono ?_; rintro e w5 ⟨rfl, hb3⟩))
          have HB2 := Lib.hid (below_then HB.out (below_then hb2 hb3))
          clear hp2 hL2 hb2 hb3 sl2
          go_wp2_with fail
          refine (CD.out _).mono ?_
          rintro e w6 ⟨rfl, hb6⟩
          go_wp2_with fail
          go_ret2
          exact ⟨by rw [HR.out.1, HR.out.2]; rfl, below_then HB2.out hb6⟩
  · have hO : pathO s = none := by
      unfold pathO
      rw [if_neg k2]
    have hk : (s.data.toList.head? == some 47) = false := beq_eq_false_iff_ne.2 k2
    rw [hk] at cpre
    have CPRE := Lib.hid cpre
    have HR := Lib.hid (pathR_of (by omega) _ hO)
    clear hO k2 hk cpre
    go_enter Tryz.func6, Tryz.ntmps6
    go_wp2_with (go_at_call 18; refine (CPRE.out _).mono ?_; rintro e w' ⟨rfl, rfl⟩)
    go_ret2
    exact ⟨by rw [HR.out.1, HR.out.2]; rfl, Below.refl _ _⟩

end Go.Proofs.YtcmppmbieebkpaaGreatDoor
