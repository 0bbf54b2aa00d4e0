/-
  Contract of the reference's dots (layer 8): dot segments removed.
-/
import Derived.Test.YtcmppmbieebkpaaGreatDoorTarP
namespace Go.Proofs.YtcmppmbieebkpaaGreatDoor
open Go.RowKit

theorem joinS_len1 (x : List UInt8) (L : List (List UInt8)) : (joinS (x :: L)).length = 1 + x.length + (joinS L).length := by rw [joinS_cons]; simp; omega
/-- The first segment of what is left. -/
structure Head8 (S : ByteArray) (x : List UInt8) (L : List (List UInt8)) : Prop where
  sz : S.size = 1 + x.length + (joinS L).length
  ink : ∀ (j : Nat) (h : j < S.size), 1 ≤ j → j < 1 + x.length → ((S[j].toNat : Int) != 47) = true
  stop : ∀ (h : 1 + x.length < S.size), ((S[1 + x.length].toNat : Int) != 47) = false
  a : S.extract 0 (1 + x.length) = mkS (47 :: x)
  z : S.extract (1 + x.length) S.size = mkS (joinS L)
theorem head8 {S : ByteArray} {x : List UInt8} {L : List (List UInt8)} (h : S.data.toList = joinS (x :: L)) (hx : NoSl x) : Head8 S x L := by
  have e := mkS_eq h
  subst e
  have hz : (mkS (joinS (x :: L))).size = 1 + x.length + (joinS L).length := by rw [mkS_size, joinS_len1]
  have hj : joinS (x :: L) = (47 :: x) ++ joinS L := joinS_cons x L
  have hat : ∀ (k : Nat) (hk : k < (mkS (joinS (x :: L))).size), (mkS (joinS (x :: L)))[k] = (joinS (x :: L))[k]'(by rw [mkS_size] at hk; exact hk) := fun k hk => rfl
  refine ⟨hz, fun j h h1 h2 => ?_, fun h => ?_, ?_, ?_⟩
  · rw [hat]
    have : (joinS (x :: L))[j]'(by rw [mkS_size] at h; exact h) = x[j - 1]'(by omega) := by
      simp only [hj]
      rw [List.getElem_append_left (by rw [List.length_cons]; omega), List.getElem_cons, dif_neg (by omega)]
    rw [this]
    have := hx _ (List.getElem_mem (show j - 1 < x.length by omega))
    rw [bne_iff_ne]
    intro e
    exact this (UInt8.toNat_inj.1 (Int.ofNat.inj e))
  · rw [hat]
    cases L with
    | nil => rw [hz] at h; simp [joinS] at h
    | cons y L =>
      have : (joinS (x :: y :: L))[1 + x.length]'(by rw [mkS_size] at h; exact h) = 47 := by
        simp only [hj]
        rw [List.getElem_append_right (by rw [List.length_cons]; omega)]
        simp [joinS_cons, Nat.add_comm]
      rw [this]; rfl
  · rw [piece_ext]
    unfold piece
    rw [mkS_list, hj, List.drop_zero, Nat.sub_zero, show 1 + x.length = (47 :: x).length from by rw [List.length_cons]; omega, List.take_left]
  · rw [piece_ext, piece_all, mkS_list, hj, show 1 + x.length = (47 :: x).length from by rw [List.length_cons]; omega, List.drop_left]

theorem segF_one (st : List (List UInt8)) (x : List UInt8) (L : List (List UInt8)) : segF st (x :: L) = segF (segN st x L.isEmpty) L := by
  cases L with
  | nil => simp [segF]
  | cons y L => rw [segF]; rfl

set_option maxHeartbeats 4000000 in
set_option maxRecDepth 100000 in
theorem r_dots (s : ByteArray) (w : World) (hs : s.size ≤ 1000000) (hh : s.data.toList.head? = some 47) :
    Calls Tryz.prog 25 #[.string s] w fun e w' => e = .returned (.string (mkS (dotsL s.data.toList))) ∧ w = w' := by
  obtain ⟨r, hr⟩ : ∃ r, s.data.toList = 47 :: r := by
    cases h : s.data.toList with
    | nil => rw [h] at hh; cases hh
    | cons c r =>
      rw [h] at hh
      simp only [List.head?_cons, Option.some.injEq] at hh
      exact ⟨r, by rw [hh]⟩
  have hD : Hid (dotsL s.data.toList = if joinS (segF [] (spS r)) = [] then [47] else joinS (segF [] (spS r))) := by
    show _ = _
    unfold dotsL
    rw [hr]; rfl
  have hS0 : Hid (s.data.toList = joinS (spS r)) := by show _ = _; rw [hr, join_sp]
  have hN0 : Hid (∀ x ∈ spS r, NoSl x) := sp_nosl r
  clear hr hh
  go_enter Tryz.func25, Tryz.ntmps25
  go_wp2_with fail
  go_loop [0, 3] (fun u o => ∃ (S O : ByteArray) (st L : List (List UInt8)), u = .string S ∧ o = .string O ∧ Hid (S.data.toList = joinS L) ∧ Hid (O.data.toList = joinS st) ∧ O.size + S.size ≤ s.size ∧ Hid (∀ x ∈ L, NoSl x) ∧ Hid (∀ x ∈ st, NoSl x) ∧ Hid (segF [] (spS r) = segF st L)) (fun u _ => match u with | .string S => S.size | _ => 0)
  case atStart => exact ⟨s, ⟨#[]⟩, [], spS r, rfl, rfl, hS0, rfl, by show 0 + _ ≤ _; omega, hN0, (fun x hx => by cases hx), rfl⟩
  case round =>
    clear hS0 hN0
    obtain ⟨S, O, st, L, rfl, rfl, hS, hO, hz, hNL, hNs, hF⟩ := hrel
    cases L with
    | nil =>
      have hz0 : S.size = 0 := by rw [Lib.size_eq, hS.out]; rfl
      have hz1 : ¬ (0 : Int) < (S.size : Int) := by omega
      have hFl := hF.out
      rw [show segF st [] = st by unfold segF; rfl] at hFl
      have hDl := hD.out
      rw [hFl, ← hO.out] at hDl
      clear hz0 hFl hS hF hz
      by_cases hem : O.data.toList = []
      · rw [if_pos hem] at hDl
        have HR : Hid (mkS (dotsL s.data.toList) = ⟨#[47]⟩) := by show _ = _; rw [hDl]; rfl
        have he : O.toList.isEmpty = true := by rw [Lib.toList_data, hem]; rfl
        clear hDl hem
        go_wp2_with fail
        go_ret
        exact ⟨by rw [HR.out]; rfl, rfl⟩
      · rw [if_neg hem] at hDl
        have HR : Hid (mkS (dotsL s.data.toList) = O) := by show _ = _; rw [hDl, mkS_self]
        have he : O.toList.isEmpty = false := by rw [Lib.toList_data, ← Bool.not_eq_true, List.isEmpty_iff]; exact hem
        clear hDl hem
        go_wp2_with fail
        go_ret
        exact ⟨by rw [HR.out]; rfl, rfl⟩
    | cons x L =>
      have hh := head8 hS.out (hNL.out x (by simp))
      have hsz := hh.sz
      have hpos : (0 : Int) < (S.size : Int) := by omega
      have hE : 1 + x.length ≤ S.size := by omega
      obtain ⟨E, hEe⟩ : ∃ E, E = 1 + x.length := ⟨_, rfl⟩
      have h1 := hh.ink
      have h2 := hh.stop
      have h3 := hh.a
      have h4 := hh.z
      rw [← hEe] at hsz hE h1 h3 h4
      have h1E : 1 ≤ E := by omega
      have H1 := Lib.hid h1
      have H2 : Hid (∀ (h : E < S.size), ((S[E].toNat : Int) != 47) = false) := by subst hEe; exact h2
      have H3 := Lib.hid h3
      have H4 := Lib.hid h4
      have HEe := Lib.hid hEe
      have HSz := Lib.hid hsz
      have HNL : Hid (∀ x ∈ L, NoSl x) := fun y hy => hNL.out y (by simp [hy])
      clear h1 h2 h3 h4 hh hEe hsz
      go_wp2_with fail
      go_loop [4] (fun i => ∃ j : Nat, 1 ≤ j ∧ j ≤ E ∧ i = .int .i64 (j : Int)) (fun i => E - (intOf i).toNat)
      case atStart => exact ⟨1, Nat.le_refl _, h1E, rfl⟩
      case round =>
        obtain ⟨j, hj1, hj2, rfl⟩ := hrel
        by_cases hlt : j < E
        · have hjs : j < S.size := by omega
          have e := H1.out j hjs hj1 hlt
          go_wp2_with fail
          go_round
          case rel => exact ⟨j + 1, by omega, by omega, by go_num⟩
          case measure => simp [intOf]; omega
        · have hjE : j = E := by omega
          subst hjE
          have x1 : (0 : Int) ≤ (j : Int) := by omega
          have x2 : (j : Int) ≤ (S.size : Int) := by omega
          have h3 := H3.out
          have h4 := H4.out
          obtain ⟨P, hP⟩ : ∃ P, P = mkS (47 :: x) := ⟨_, rfl⟩
          obtain ⟨Z, hZ⟩ : ∃ Z, Z = mkS (joinS L) := ⟨_, rfl⟩
          rw [← hP] at h3
          rw [← hZ] at h4
          have hPl : P.data.toList = 47 :: x := by rw [hP, mkS_list]
          have zP : P.size = j := by rw [hP, mkS_size, HEe.out, List.length_cons]; omega
          have zZ : Z.size = S.size - j := by rw [hZ, mkS_size, HSz.out]; omega
          have HZl : Hid (Z.data.toList = joinS L) := by show _ = _; rw [hZ, mkS_list]
          have zP1 : P.size ≤ 1000000 := by omega
          have zO1 : O.size ≤ 1000000 := by omega
          have hzm : Z.size < S.size := by omega
          have ZP := Lib.hid zP
          have ZZ := Lib.hid zZ
          have HPl := Lib.hid hPl
          have hbb : ∀ c : List UInt8, (P.toList == 47 :: c) = (x == c) := fun c => by rw [Lib.toList_data, hPl]; simp
          have hNx : NoSl x := hNL.out x (by simp)
          clear hP hZ zP zZ hPl
          by_cases hla : j < S.size
          · have hLe : L.isEmpty = false := by
              cases L with
              | nil =>
                have := HSz.out
                simp [joinS] at this
                omega
              | cons y L => rfl
            have e := H2.out hla
            have hl2 : ((j : Int) == (S.size : Int)) = false := by rw [beq_eq_false_iff_ne]; omega
            have HLe := Lib.hid hLe
            clear hLe
            by_cases hd2 : x = [46, 46]
            · have b2 : (P.toList == [47, 46, 46]) = true := by rw [hbb, hd2]; rfl
              have b1 : (P.toList == [47, 46]) = false := by rw [hbb, hd2]; rfl
              rcases List.eq_nil_or_concat st with hst | ⟨st0, y, hst⟩
              · have hO0 : O.size = 0 := by rw [Lib.size_eq, hO.out, hst]; rfl
                have hO1 : ¬ (0 : Int) < (O.size : Int) := by omega
                have HFn : Hid (segF [] (spS r) = segF (([] : List (List UInt8))) L) := by
                  show _ = _
                  rw [hF.out, segF_one, HLe.out]
                  exact congrArg (fun z => segF z L) (by unfold segN; rw [if_pos hd2, hst]; rfl)
                have HNn : Hid (∀ z ∈ ([] : List (List UInt8)), NoSl z) := (fun y hy => by cases hy)
                have HOn : Hid ((O).data.toList = joinS (([] : List (List UInt8)))) := by
                  show _ = _
                  rw [hO.out, hst]
                have hzn : (O).size + Z.size ≤ s.size := by
                  have := ZP.out
                  have := ZZ.out
                  first | omega | (rw [ByteArray.size_append]; first | omega | (rw [show (⟨#[47]⟩ : ByteArray).size = 1 from rfl]; omega))
                clear hO0 hO hF hS hNs hNL hd2 hst hbb hNx
                go_wp2_with fail
                go_loop [3] (fun o => o = .string O) (fun _ => 0)
                case atStart => rfl
                case round =>
                  subst hrel
                  go_wp2_with fail
                  go_round
                  case rel => exact ⟨_, _, _, L, rfl, rfl, HZl, HOn, hzn, HNL, HNn, HFn⟩
                  case measure => first | (simp only []; omega) | omega
              · have hOl : O.data.toList = joinS st0 ++ 47 :: y.take y.length := by rw [hO.out, hst, List.concat_eq_append, joinS_snoc, List.take_length]
                have hNy : NoSl y := hNs.out y (by rw [hst]; simp)
                have hN0 : ∀ x ∈ st0, NoSl x := fun z hz => hNs.out z (by rw [hst]; simp [hz])
                have HOl := Lib.hid hOl
                have HNy := Lib.hid hNy
                have HN0 := Lib.hid hN0
                have HSeg : Hid (segN st x false = st0) := by show _ = _; unfold segN; rw [if_pos hd2, hst, List.concat_eq_append]; simp
                have hOs : O.size ≤ s.size - S.size := by omega
                clear hOl hNy hN0 hO hS hNs hNL hd2 hst hbb hNx
                go_wp2_with fail
                go_loop [3] (fun o => ∃ (i : Nat) (O2 : ByteArray), i ≤ y.length ∧ o = .string O2 ∧ O2.size ≤ O.size ∧ Hid (O2.data.toList = joinS st0 ++ 47 :: y.take i)) (fun o => match o with | .string O2 => O2.size | _ => 0)
                case atStart => exact ⟨y.length, O, Nat.le_refl _, rfl, Nat.le_refl _, HOl.out⟩
                case round =>
                  clear HOl
                  obtain ⟨i, O2, hi, rfl, hle, hf⟩ := hrel
                  have hn : O2.size = (joinS st0).length + i + 1 := by rw [Lib.size_eq, hf.out, List.length_append, List.length_cons, List.length_take]; omega
                  obtain ⟨n, hnn⟩ : ∃ n, n = (joinS st0).length + i := ⟨_, rfl⟩
                  rw [← hnn] at hn
                  have hnl : n < O2.size := by omega
                  have hlast : (joinS st0 ++ 47 :: y.take i)[n]? = some O2[n] := by
                    rw [← hf.out, List.getElem?_eq_getElem (by rw [← Lib.size_eq]; exact hnl)]; rfl
                  rw [List.getElem?_append_right (by omega), show n - (joinS st0).length = i by omega] at hlast
                  have hget0 : i = 0 → O2[n] = 47 := fun h2 => by
                    subst h2
                    simpa using hlast.symm
                  have hgetS : ∀ (h2 : ¬ i = 0), O2[n] = y[i - 1]'(by omega) := fun h2 => by
                    rw [show i = i - 1 + 1 by omega, List.getElem?_cons_succ, List.getElem?_take, if_pos (by omega), List.getElem?_eq_getElem (by omega)] at hlast
                    simpa using hlast.symm
                  have hpo : (0 : Int) < (O2.size : Int) := by omega
                  have hcut : O2.extract 0 n = mkS ((joinS st0 ++ 47 :: y.take i).take n) := by
                    rw [piece_ext]
                    unfold piece
                    rw [hf.out, List.drop_zero, Nat.sub_zero]
                  have y1 : (0 : Int) ≤ (n : Int) := by omega
                  have y2 : (n : Int) ≤ (O2.size : Int) := by omega
                  have Hn := Lib.hid hn
                  have Hnn := Lib.hid hnn
                  have hnz : (O2.size : Int) - 1 = (n : Int) := by omega
                  by_cases hi0 : i = 0
                  · have e3 : ((O2[n].toNat : Int) != 47) = false := by rw [hget0 hi0]; rfl
                    have hO3 : O2.extract 0 n = mkS (joinS st0) := by rw [hcut, show n = (joinS st0).length by omega, List.take_left]
                    obtain ⟨O3, hO3e⟩ : ∃ O3, O3 = mkS (joinS st0) := ⟨_, rfl⟩
                    rw [← hO3e] at hO3
                    have hO3s : O3.size = n := by rw [hO3e, mkS_size]; omega
                    have hO3l : O3.data.toList = joinS st0 := by rw [hO3e, mkS_list]
                    have HFn : Hid (segF [] (spS r) = segF (st0) L) := by
                      show _ = _
                      rw [hF.out, segF_one, HLe.out]
                      exact congrArg (fun z => segF z L) (HSeg.out)
                    have HNn : Hid (∀ z ∈ st0, NoSl z) := HN0.out
                    have HOn : Hid ((O3).data.toList = joinS (st0)) := by
                      show _ = _
                      exact hO3l
                    have hzn : (O3).size + Z.size ≤ s.size := by
                      have := ZP.out
                      have := ZZ.out
                      first | omega | (rw [ByteArray.size_append]; first | omega | (rw [show (⟨#[47]⟩ : ByteArray).size = 1 from rfl]; omega))
                    have hO31 : O3.size ≤ 1000000 := by omega
                    clear hO3s hO3l hO3e hlast hget0 hgetS hcut hf hi0 hn hnn hF
                    go_wp2_with fail
                    go_round
                    case rel => exact ⟨_, _, _, L, rfl, rfl, HZl, HOn, hzn, HNL, HNn, HFn⟩
                    case measure => first | (simp only []; omega) | omega
                  · have e3 : ((O2[n].toNat : Int) != 47) = true := by
                      rw [hgetS hi0, bne_iff_ne]
                      have := HNy.out _ (List.getElem_mem (show i - 1 < y.length by omega))
                      intro e
                      exact this (UInt8.toNat_inj.1 (Int.ofNat.inj e))
                    have hO3 : Hid ((O2.extract 0 n).data.toList = joinS st0 ++ 47 :: y.take (i - 1)) := by
                      show _ = _
                      rw [hcut, mkS_list, List.take_append, List.take_of_length_le (by omega), show n - (joinS st0).length = i - 1 + 1 by omega, List.take_succ_cons, List.take_take, show min (i - 1) i = i - 1 by omega]
                    have hO3z : (O2.extract 0 n).size ≤ O.size := by rw [ByteArray.size_extract]; omega
                    have hO3y : (O2.extract 0 n).size < O2.size := by rw [ByteArray.size_extract]; omega
                    clear hlast hget0 hgetS hcut hf hn hnn
                    go_wp2_with fail
                    go_round
                    case rel => exact ⟨i - 1, _, by omega, rfl, hO3z, hO3⟩
                    case measure => first | (simp only []; omega) | omega
            by_cases hd1 : x = [46]
            · have b2 : (P.toList == [47, 46, 46]) = false := by rw [hbb, hd1]; rfl
              have b1 : (P.toList == [47, 46]) = true := by rw [hbb, hd1]; rfl
              have HFn : Hid (segF [] (spS r) = segF (st) L) := by
                show _ = _
                rw [hF.out, segF_one, HLe.out]
                exact congrArg (fun z => segF z L) (by unfold segN; rw [if_neg hd2, if_pos hd1]; rfl)
              have HNn : Hid (∀ z ∈ st, NoSl z) := hNs.out
              have HOn : Hid ((O).data.toList = joinS (st)) := by
                show _ = _
                exact hO.out
              have hzn : (O).size + Z.size ≤ s.size := by
                have := ZP.out
                have := ZZ.out
                first | omega | (rw [ByteArray.size_append]; first | omega | (rw [show (⟨#[47]⟩ : ByteArray).size = 1 from rfl]; omega))
              clear hO hF hS hNs hNL hd1 hd2 hbb hNx
              go_wp2_with fail
              go_round
              case rel => exact ⟨_, _, _, L, rfl, rfl, HZl, HOn, hzn, HNL, HNn, HFn⟩
              case measure => first | (simp only []; omega) | omega
            have b2 : (P.toList == [47, 46, 46]) = false := by rw [hbb, beq_eq_false_iff_ne]; exact hd2
            have b1 : (P.toList == [47, 46]) = false := by rw [hbb, beq_eq_false_iff_ne]; exact hd1
            have HFn : Hid (segF [] (spS r) = segF (st ++ [x]) L) := by
              show _ = _
              rw [hF.out, segF_one, HLe.out]
              exact congrArg (fun z => segF z L) (by unfold segN; rw [if_neg hd2, if_neg hd1])
            have HNn : Hid (∀ z ∈ st ++ [x], NoSl z) := (fun y hy => by rcases List.mem_append.1 hy with hy | hy; exact hNs.out y hy; simp only [List.mem_cons, List.not_mem_nil, or_false] at hy; subst hy; exact hNx)
            have HOn : Hid ((O ++ P).data.toList = joinS (st ++ [x])) := by
              show _ = _
              rw [append_list, hO.out, HPl.out, joinS_snoc]
            have hzn : (O ++ P).size + Z.size ≤ s.size := by
              have := ZP.out
              have := ZZ.out
              first | omega | (rw [ByteArray.size_append]; first | omega | (rw [show (⟨#[47]⟩ : ByteArray).size = 1 from rfl]; omega))
            clear hO hF hS hNs hNL hd1 hd2 hbb hNx
            go_wp2_with fail
            go_round
            case rel => exact ⟨_, _, _, L, rfl, rfl, HZl, HOn, hzn, HNL, HNn, HFn⟩
            case measure => first | (simp only []; omega) | omega
          · have hLe : L.isEmpty = true := by
              cases L with
              | nil => rfl
              | cons y L =>
                have := HSz.out
                rw [joinS_len1] at this
                omega
            have hl2 : ((j : Int) == (S.size : Int)) = true := by rw [beq_iff_eq]; omega
            have hl3 : ¬ (j : Int) < (S.size : Int) := by omega
            have HLe := Lib.hid hLe
            clear hLe
            by_cases hd2 : x = [46, 46]
            · have b2 : (P.toList == [47, 46, 46]) = true := by rw [hbb, hd2]; rfl
              have b1 : (P.toList == [47, 46]) = false := by rw [hbb, hd2]; rfl
              rcases List.eq_nil_or_concat st with hst | ⟨st0, y, hst⟩
              · have hO0 : O.size = 0 := by rw [Lib.size_eq, hO.out, hst]; rfl
                have hO1 : ¬ (0 : Int) < (O.size : Int) := by omega
                have HFn : Hid (segF [] (spS r) = segF ([[]]) L) := by
                  show _ = _
                  rw [hF.out, segF_one, HLe.out]
                  exact congrArg (fun z => segF z L) (by unfold segN; rw [if_pos hd2, hst]; rfl)
                have HNn : Hid (∀ z ∈ [[]], NoSl z) := (fun y hy => by simp only [List.mem_cons, List.not_mem_nil, or_false] at hy; subst hy; intro c hc; cases hc)
                have HOn : Hid ((O ++ (⟨#[47]⟩ : ByteArray)).data.toList = joinS ([[]])) := by
                  show _ = _
                  rw [append_list, hO.out, hst]; rfl
                have hzn : (O ++ (⟨#[47]⟩ : ByteArray)).size + Z.size ≤ s.size := by
                  have := ZP.out
                  have := ZZ.out
                  first | omega | (rw [ByteArray.size_append]; first | omega | (rw [show (⟨#[47]⟩ : ByteArray).size = 1 from rfl]; omega))
                clear hO0 hO hF hS hNs hNL hd2 hst hbb hNx
                go_wp2_with fail
                go_loop [3] (fun o => o = .string O) (fun _ => 0)
                case atStart => rfl
                case round =>
                  subst hrel
                  go_wp2_with fail
                  go_round
                  case rel => exact ⟨_, _, _, L, rfl, rfl, HZl, HOn, hzn, HNL, HNn, HFn⟩
                  case measure => first | (simp only []; omega) | omega
              · have hOl : O.data.toList = joinS st0 ++ 47 :: y.take y.length := by rw [hO.out, hst, List.concat_eq_append, joinS_snoc, List.take_length]
                have hNy : NoSl y := hNs.out y (by rw [hst]; simp)
                have hN0 : ∀ x ∈ st0, NoSl x := fun z hz => hNs.out z (by rw [hst]; simp [hz])
                have HOl := Lib.hid hOl
                have HNy := Lib.hid hNy
                have HN0 := Lib.hid hN0
                have HSeg : Hid (segN st x true = st0 ++ [[]]) := by show _ = _; unfold segN; rw [if_pos hd2, hst, List.concat_eq_append]; simp
                have hOs : O.size ≤ s.size - S.size := by omega
                clear hOl hNy hN0 hO hS hNs hNL hd2 hst hbb hNx
                go_wp2_with fail
                go_loop [3] (fun o => ∃ (i : Nat) (O2 : ByteArray), i ≤ y.length ∧ o = .string O2 ∧ O2.size ≤ O.size ∧ Hid (O2.data.toList = joinS st0 ++ 47 :: y.take i)) (fun o => match o with | .string O2 => O2.size | _ => 0)
                case atStart => exact ⟨y.length, O, Nat.le_refl _, rfl, Nat.le_refl _, HOl.out⟩
                case round =>
                  clear HOl
                  obtain ⟨i, O2, hi, rfl, hle, hf⟩ := hrel
                  have hn : O2.size = (joinS st0).length + i + 1 := by rw [Lib.size_eq, hf.out, List.length_append, List.length_cons, List.length_take]; omega
                  obtain ⟨n, hnn⟩ : ∃ n, n = (joinS st0).length + i := ⟨_, rfl⟩
                  rw [← hnn] at hn
                  have hnl : n < O2.size := by omega
                  have hlast : (joinS st0 ++ 47 :: y.take i)[n]? = some O2[n] := by
                    rw [← hf.out, List.getElem?_eq_getElem (by rw [← Lib.size_eq]; exact hnl)]; rfl
                  rw [List.getElem?_append_right (by omega), show n - (joinS st0).length = i by omega] at hlast
                  have hget0 : i = 0 → O2[n] = 47 := fun h2 => by
                    subst h2
                    simpa using hlast.symm
                  have hgetS : ∀ (h2 : ¬ i = 0), O2[n] = y[i - 1]'(by omega) := fun h2 => by
                    rw [show i = i - 1 + 1 by omega, List.getElem?_cons_succ, List.getElem?_take, if_pos (by omega), List.getElem?_eq_getElem (by omega)] at hlast
                    simpa using hlast.symm
                  have hpo : (0 : Int) < (O2.size : Int) := by omega
                  have hcut : O2.extract 0 n = mkS ((joinS st0 ++ 47 :: y.take i).take n) := by
                    rw [piece_ext]
                    unfold piece
                    rw [hf.out, List.drop_zero, Nat.sub_zero]
                  have y1 : (0 : Int) ≤ (n : Int) := by omega
                  have y2 : (n : Int) ≤ (O2.size : Int) := by omega
                  have Hn := Lib.hid hn
                  have Hnn := Lib.hid hnn
                  have hnz : (O2.size : Int) - 1 = (n : Int) := by omega
                  by_cases hi0 : i = 0
                  · have e3 : ((O2[n].toNat : Int) != 47) = false := by rw [hget0 hi0]; rfl
                    have hO3 : O2.extract 0 n = mkS (joinS st0) := by rw [hcut, show n = (joinS st0).length by omega, List.take_left]
                    obtain ⟨O3, hO3e⟩ : ∃ O3, O3 = mkS (joinS st0) := ⟨_, rfl⟩
                    rw [← hO3e] at hO3
                    have hO3s : O3.size = n := by rw [hO3e, mkS_size]; omega
                    have hO3l : O3.data.toList = joinS st0 := by rw [hO3e, mkS_list]
                    have HFn : Hid (segF [] (spS r) = segF (st0 ++ [[]]) L) := by
                      show _ = _
                      rw [hF.out, segF_one, HLe.out]
                      exact congrArg (fun z => segF z L) (HSeg.out)
                    have HNn : Hid (∀ z ∈ st0 ++ [[]], NoSl z) := (fun y hy => by rcases List.mem_append.1 hy with hy | hy; exact HN0.out y hy; simp only [List.mem_cons, List.not_mem_nil, or_false] at hy; subst hy; intro c hc; cases hc)
                    have HOn : Hid ((O3 ++ (⟨#[47]⟩ : ByteArray)).data.toList = joinS (st0 ++ [[]])) := by
                      show _ = _
                      rw [append_list, hO3l, joinS_snoc]; all_goals rfl
                    have hzn : (O3 ++ (⟨#[47]⟩ : ByteArray)).size + Z.size ≤ s.size := by
                      have := ZP.out
                      have := ZZ.out
                      first | omega | (rw [ByteArray.size_append]; first | omega | (rw [show (⟨#[47]⟩ : ByteArray).size = 1 from rfl]; omega))
                    have hO31 : O3.size ≤ 1000000 := by omega
                    clear hO3s hO3l hO3e hlast hget0 hgetS hcut hf hi0 hn hnn hF
                    go_wp2_with fail
                    go_round
                    case rel => exact ⟨_, _, _, L, rfl, rfl, HZl, HOn, hzn, HNL, HNn, HFn⟩
                    case measure => first | (simp only []; omega) | omega
                  · have e3 : ((O2[n].toNat : Int) != 47) = true := by
                      rw [hgetS hi0, bne_iff_ne]
                      have := HNy.out _ (List.getElem_mem (show i - 1 < y.length by omega))
                      intro e
                      exact this (UInt8.toNat_inj.1 (Int.ofNat.inj e))
                    have hO3 : Hid ((O2.extract 0 n).data.toList = joinS st0 ++ 47 :: y.take (i - 1)) := by
                      show _ = _
                      rw [hcut, mkS_list, List.take_append, List.take_of_length_le (by omega), show n - (joinS st0).length = i - 1 + 1 by omega, List.take_succ_cons, List.take_take, show min (i - 1) i = i - 1 by omega]
                    have hO3z : (O2.extract 0 n).size ≤ O.size := by rw [ByteArray.size_extract]; omega
                    have hO3y : (O2.extract 0 n).size < O2.size := by rw [ByteArray.size_extract]; omega
                    clear hlast hget0 hgetS hcut hf hn hnn
                    go_wp2_with fail
                    go_round
                    case rel => exact ⟨i - 1, _, by omega, rfl, hO3z, hO3⟩
                    case measure => first | (simp only []; omega) | omega
            by_cases hd1 : x = [46]
            · have b2 : (P.toList == [47, 46, 46]) = false := by rw [hbb, hd1]; rfl
              have b1 : (P.toList == [47, 46]) = true := by rw [hbb, hd1]; rfl
              have HFn : Hid (segF [] (spS r) = segF (st ++ [[]]) L) := by
                show _ = _
                rw [hF.out, segF_one, HLe.out]
                exact congrArg (fun z => segF z L) (by unfold segN; rw [if_neg hd2, if_pos hd1]; rfl)
              have HNn : Hid (∀ z ∈ st ++ [[]], NoSl z) := (fun y hy => by rcases List.mem_append.1 hy with hy | hy; exact hNs.out y hy; simp only [List.mem_cons, List.not_mem_nil, or_false] at hy; subst hy; intro c hc; cases hc)
              have HOn : Hid ((O ++ (⟨#[47]⟩ : ByteArray)).data.toList = joinS (st ++ [[]])) := by
                show _ = _
                rw [append_list, hO.out, joinS_snoc]; all_goals rfl
              have hzn : (O ++ (⟨#[47]⟩ : ByteArray)).size + Z.size ≤ s.size := by
                have := ZP.out
                have := ZZ.out
                first | omega | (rw [ByteArray.size_append]; first | omega | (rw [show (⟨#[47]⟩ : ByteArray).size = 1 from rfl]; omega))
              clear hO hF hS hNs hNL hd1 hd2 hbb hNx
              go_wp2_with fail
              go_round
              case rel => exact ⟨_, _, _, L, rfl, rfl, HZl, HOn, hzn, HNL, HNn, HFn⟩
              case measure => first | (simp only []; omega) | omega
            have b2 : (P.toList == [47, 46, 46]) = false := by rw [hbb, beq_eq_false_iff_ne]; exact hd2
            have b1 : (P.toList == [47, 46]) = false := by rw [hbb, beq_eq_false_iff_ne]; exact hd1
            have HFn : Hid (segF [] (spS r) = segF (st ++ [x]) L) := by
              show _ = _
              rw [hF.out, segF_one, HLe.out]
              exact congrArg (fun z => segF z L) (by unfold segN; rw [if_neg hd2, if_neg hd1])
            have HNn : Hid (∀ z ∈ st ++ [x], NoSl z) := (fun y hy => by rcases List.mem_append.1 hy with hy | hy; exact hNs.out y hy; simp only [List.mem_cons, List.not_mem_nil, or_false] at hy; subst hy; exact hNx)
            have HOn : Hid ((O ++ P).data.toList = joinS (st ++ [x])) := by
              show _ = _
              rw [append_list, hO.out, HPl.out, joinS_snoc]
            have hzn : (O ++ P).size + Z.size ≤ s.size := by
              have := ZP.out
              have := ZZ.out
              first | omega | (rw [ByteArray.size_append]; first | omega | (rw [show (⟨#[47]⟩ : ByteArray).size = 1 from rfl]; omega))
            clear hO hF hS hNs hNL hd1 hd2 hbb hNx
            go_wp2_with fail
            go_round
            case rel => exact ⟨_, _, _, L, rfl, rfl, HZl, HOn, hzn, HNL, HNn, HFn⟩
            case measure => first | (simp only []; omega) | omega

end Go.Proofs.YtcmppmbieebkpaaGreatDoor
