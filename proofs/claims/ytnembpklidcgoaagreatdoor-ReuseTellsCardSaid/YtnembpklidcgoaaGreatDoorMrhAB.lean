/-
  Texts that the laws of this seat lean on, one behind the other.
-/
import Derived.Test.YtnembpklidcgoaaGreatDoorMrhT
import Derived.Test.YtnembpklidcgoaaGreatDoorMrhE
import Derived.Test.YtnembpklidcgoaaGreatDoorMrhAA
set_option linter.unusedSimpArgs false
set_option linter.unusedVariables false
/-
  Contract of the reference's elements (layer 13).
-/
section
namespace Go.Proofs.YtnembpklidcgoaaGreatDoor
open Go.RowKit

theorem dvs_snoc (V : List (List UInt8)) (k : Nat) (h : k < V.length) : dvs (V.take (k + 1)) = dvs (V.take k) ++ dvV V[k] := by
  unfold dvs
  rw [List.take_succ_eq_append_getElem h, List.flatMap_append]
  simp
theorem fnV_snoc (V : List (List UInt8)) (k : Nat) (h : k < V.length) : fnV (V.take (k + 1)) = (fnV (V.take k) && decide (splE V[k] = 0)) := by
  unfold fnV
  rw [List.take_succ_eq_append_getElem h, List.all_append]
  simp
theorem dvV_len (v : List UInt8) : (dvV v).length ≤ v.length + 1 := by
  unfold dvV
  refine Nat.le_trans (List.length_filterMap_le _ _) ?_
  unfold splO
  cases e : splitL v with
  | none => exact Nat.zero_le _
  | some L => exact (split_good e).2
theorem dvs_len : ∀ V : List (List UInt8), (∀ v ∈ V, v.length ≤ 10000) → (dvs V).length ≤ V.length * 10001
  | [], _ => Nat.zero_le _
  | v :: V, h => by
    have h1 := dvs_len V fun x hx => h x (List.mem_cons_of_mem _ hx)
    have h2 := h v (List.mem_cons_self ..)
    have h3 := dvV_len v
    have : dvs (v :: V) = dvV v ++ dvs V := rfl
    rw [this, List.length_append, List.length_cons]
    omega
theorem fm_snoc (E : List (List UInt8)) (j : Nat) (h : j < E.length) : (E.take (j + 1)).filterMap dvO = (E.take j).filterMap dvO ++ (match dvO E[j] with | some d => [d] | none => []) := by
  rw [List.take_succ_eq_append_getElem h, List.filterMap_append]
  congr 1
  cases e : dvO E[j] with
  | none => simp [e]
  | some d => simp [e]
theorem spl_sz {v : List UInt8} (h : v.length ≤ 10000) : (splO v).length ≤ 10001 ∧ ∀ x ∈ splO v, x.length ≤ 10000 := by
  unfold splO
  cases e : splitL v with
  | none => exact ⟨by simp, fun x hx => by simp at hx⟩
  | some L =>
    obtain ⟨g1, g2⟩ := split_good e
    exact ⟨by show L.length ≤ _; omega, fun x hx => by have := (g1 x hx).2; omega⟩

theorem ccS_le : ccS.size ≤ maxLen := by decide
set_option maxHeartbeats 16000000 in
set_option maxRecDepth 100000 in
theorem r_elements (A : Option Addr) (n c : Nat) (L : List Fd) (w : World) (h : SlF w A n c L) (hn : n ≤ 1000) (hB : ∀ x ∈ L, x.2.size ≤ 10000) :
    Calls Tryz.prog 83 #[.slice A n c] w fun e w' => ∃ A1 c1 A2 c2, e = .returned (.tuple #[.slice A1 (dvs (fdAll L ccS)).length c1, .slice A2 (dvs (fdAll L ccS)).length c2, .bool (fnV (fdAll L ccS))]) ∧
      SlS w' A1 (dvs (fdAll L ccS)).length c1 ((dvs (fdAll L ccS)).map (·.1)) ∧ SlS w' A2 (dvs (fdAll L ccS)).length c2 ((dvs (fdAll L ccS)).map (·.2)) ∧ Below w.heap.size w w' := by
  have C1 := Lib.hid (rf_all A n c L ccS w h (by omega) ccS_le)
  have hVz : ∀ x ∈ fdAll L ccS, x.length ≤ 10000 := fun x hx => by
    unfold fdAll at hx
    obtain ⟨y, hy, rfl⟩ := List.mem_map.1 hx
    rw [← Lib.size_eq]
    exact hB y (List.mem_filter.1 hy).1
  have hVn : (fdAll L ccS).length ≤ 1000 := by
    unfold fdAll
    rw [List.length_map]
    exact Nat.le_trans (List.length_filter_le _ _) (by rw [h.len]; exact hn)
  generalize fdAll L ccS = V at *
  unfold ccS at C1
  clear h hB hn
  go_enter Tryz.func83, Tryz.ntmps83
  go_wp2_with fail
  refine C1.out.mono ?_
  rintro e w1 ⟨A0, c0, rfl, hS, _, hb1⟩
  have HS := Lib.hid hS
  have HB := Lib.hid hb1
  clear hb1 hS C1
  go_wp2_with fail
  go_loopw [5, 6, 7, 9] (fun v u g i wr => ∃ (k : Nat) (b : Bool), k ≤ V.length ∧ i = .int .i64 (k : Int) ∧ g = .bool b ∧ Hid (OwnS wr w1.heap.size 9 v ((dvs (V.take k)).map (·.1))) ∧ Hid (OwnS wr w1.heap.size 9 u ((dvs (V.take k)).map (·.2))) ∧ Hid (Apt u v) ∧ Hid (b = fnV (V.take k)) ∧ Below w1.heap.size w1 wr) (fun _ _ _ i _ => V.length - (intOf i).toNat)
  case atStart => exact ⟨0, true, Nat.zero_le _, rfl, rfl, OwnS.nil _ _ _, OwnS.nil _ _ _, Apt.none_ _, rfl, Below.refl _ _⟩
  case round =>
    obtain ⟨k, b, hk, rfl, rfl, hown, hun, hap, hfn, hbel1⟩ := hrel
    by_cases hlt : k < V.length
    · obtain ⟨ad, rfl, hc⟩ := HS.out.at_ (by omega)
      have hcell := cell_kept hbel1 (hc k V[k] (List.getElem?_eq_getElem hlt))
      have hvz := hVz _ (List.getElem_mem hlt)
      have hsn := dvs_snoc V k hlt
      have hfs := fnV_snoc V k hlt
      obtain ⟨hEn, hEz⟩ := spl_sz hvz
      have hPl := dvs_len (V.take k) (fun x hx => hVz x (List.mem_of_mem_take hx))
      have hPk : (V.take k).length ≤ 1000 := by rw [List.length_take]; omega
      have CS := Lib.hid (fun W => r_split_f (mkS V[k]) W (by rw [mkS_size]; omega))
      rw [mkS_list] at CS
      have hse : splE V[k] = 0 ∨ splE V[k] = 5 := by
        unfold splE
        split
        · exact .inl rfl
        · exact .inr rfl
      unfold dvV at hsn
      generalize splO V[k] = E at *
      generalize splE V[k] = se at *
      generalize mkS V[k] = ms at *
      generalize dvs (V.take k) = P at *
      have hPlen : P.length ≤ 10001000 := by
        refine Nat.le_trans hPl ?_
        exact Nat.mul_le_mul_right 10001 hPk
      have hi0 : (0 : Int) ≤ (k : Int) := by omega
      have hi1 : (k : Int) < (V.length : Int) := by omega
      have hs41 := hbel1.size
      have HSN := Lib.hid hsn
      have HFS : Hid (fnV (V.take (k + 1)) = (b && decide (se = 0))) := by show _ = _; rw [hfs, ← hfn.out]
      clear hc hvz hPl hPk hsn hfs hfn
      rcases hse with hse | hse
      all_goals
        cases b
        all_goals
          subst hse
          go_wp2_with fail
          refine (CS.out _).mono ?_
          rintro e w2 ⟨A2, c2, rfl, hS2, _, hfr, hb2⟩
          have HS2 := Lib.hid hS2
          have HOV : Hid (Off A2 _) := fun ad ha he => by
            have h1 := hfr ad ha
            have h2 := (World.ownsRow.lt hown.out ad.block he).2
            omega
          have HOU : Hid (Off A2 _) := fun ad ha he => by
            have h1 := hfr ad ha
            have h2 := (World.ownsRow.lt hun.out ad.block he).2
            omega
          have HO := Lib.hid (hown.out.below hb2)
          have HU := Lib.hid (hun.out.below hb2)
          have HB21 := Lib.hid (hbel1.trans (hb2.mono hs41))
          clear hb2 hS2 hfr
          go_wp2_with fail
          go_loopw [5, 6, 12] (fun v u i wi => ∃ j : Nat, j ≤ E.length ∧ i = .int .i64 (j : Int) ∧ Hid (OwnS wi w1.heap.size 9 v ((P ++ (E.take j).filterMap dvO).map (·.1))) ∧ Hid (OwnS wi w1.heap.size 9 u ((P ++ (E.take j).filterMap dvO).map (·.2))) ∧ Hid (Apt u v) ∧ Hid (SlS wi A2 E.length c2 E) ∧ Hid (Off A2 v) ∧ Hid (Off A2 u) ∧ Below w1.heap.size w1 wi) (fun _ _ i _ => E.length - (intOf i).toNat)
          case atStart => exact ⟨0, Nat.zero_le _, rfl, by show OwnS _ _ _ _ _; rw [List.take_zero, List.filterMap_nil, List.append_nil]; exact HO.out, by show OwnS _ _ _ _ _; rw [List.take_zero, List.filterMap_nil, List.append_nil]; exact HU.out, hap, HS2.out, HOV, HOU, HB21.out⟩
          case round =>
            clear hown hun hap HO HU HS2 HOV HOU
            obtain ⟨j, hj, rfl, hown, hun, hap, HS2, HOV, HOU, hb21⟩ := hrel
            by_cases hjl : j < E.length
            · obtain ⟨bd, rfl, hd⟩ := HS2.out.at_ (by omega)
              have hcell2 := hd j E[j] (List.getElem?_eq_getElem hjl)
              have hblk := HS2.out.lt (by omega)
              have hez := hEz _ (List.getElem_mem hjl)
              have hfm := fm_snoc E j hjl
              have CP := Lib.hid (fun W => r_param (mkS E[j]) W (by rw [mkS_size]; omega))
              have hdv : dvO E[j] = if parE (mkS E[j]) = 0 then some ((parN (mkS E[j])).data.toList, (parV (mkS E[j])).data.toList) else none := rfl
              rw [hdv] at hfm
              have hXl : (P ++ (E.take j).filterMap dvO).length ≤ 10011001 := by
                rw [List.length_append]
                have := List.length_filterMap_le dvO (E.take j)
                rw [List.length_take] at this
                omega
              generalize parE (mkS E[j]) = pe at *
              generalize parN (mkS E[j]) = pn at *
              generalize parV (mkS E[j]) = pv at *
              generalize parH (mkS E[j]) = ph at *
              generalize mkS E[j] = me at *
              generalize (E.take j).filterMap dvO = Q at *
              have hj0 : (0 : Int) ≤ (j : Int) := by omega
              have hj1 : (j : Int) < (E.length : Int) := by omega
              have hsB := hb21.size
              clear hd hez hdv
              by_cases hpe : pe = 0
              · rw [if_pos hpe] at hfm
                have HF1 : Hid ((P ++ (E.take (j + 1)).filterMap dvO).map (·.1) = (P ++ Q).map (·.1) ++ [pn.data.toList]) := by show _ = _; rw [hfm]; simp
                have HF2 : Hid ((P ++ (E.take (j + 1)).filterMap dvO).map (·.2) = (P ++ Q).map (·.2) ++ [pv.data.toList]) := by show _ = _; rw [hfm]; simp
                have hX1 : ((P ++ Q).map (·.1)).length ≤ 10011001 := by rw [List.length_map]; exact hXl
                have hX2 : ((P ++ Q).map (·.2)).length ≤ 10011001 := by rw [List.length_map]; exact hXl
                generalize (P ++ Q).map (·.1) = X1 at *
                generalize (P ++ Q).map (·.2) = X2 at *
                subst hpe
                clear hfm hXl
                go_wp2_with fail
                refine (CP.out _).mono ?_
                rintro e w3 ⟨rfl, hb3⟩
                have HO := Lib.hid (hown.out.below hb3)
                have HU := Lib.hid (hun.out.below hb3)
                have HBB := Lib.hid (hb21.trans (hb3.mono hsB))
                have HSE := Lib.hid (HS2.out.below hb3)
                have hs5 := HBB.out.size
                have hs6 := hb3.size
                clear hb3 hown hun
                go_wp2_with (at_builtin; first
                  | (refine wpList_append_sls2 rfl _ _ _ rfl w1.heap.size 9 Tryz.underlying52 (by kernel_rfl) _ rfl X1 (HO.out.alloc _) _ _ _ rfl [pn.data.toList] (SlS.textAt _ _ pn rfl) (by simp; omega) (by simp; omega) w1 (HBB.out.alloc hs5 _) _ X2 (HU.out.alloc _) hap.out ?_; intro v1 w4 ho1 hu1 ha1 hb4 hz4 hg4)
                  | (refine wpList_append_sls2 rfl _ _ _ rfl w1.heap.size 9 Tryz.underlying52 (by kernel_rfl) _ rfl X2 (hu1.out.alloc _) _ _ _ rfl [pv.data.toList] (SlS.textAt _ _ pv rfl) (by simp; omega) (Nat.le_trans hb4.size (by simp)) w1 (hb4.alloc hb4.size _) _ (X1 ++ [pn.data.toList]) (ho1.out.alloc _) ha1.out.symm ?_; intro v2 w5 ho2 hu2 ha2 hb5 hz5 hg5))
                go_roundw
                case rel =>
                  have hE4 := (HSE.out.alloc (.cells #[.string pn] 9)).grw HOV.out hg4.out
                  have hE5 := (hE4.alloc (.cells #[.string pv] 9)).grw HOU.out hg5.out
                  have hl4 : bd.block < (w3.alloc (.cells #[.string pn] 9)).heap.size := by simp; omega
                  have hl5 : bd.block < (w4.alloc (.cells #[.string pv] 9)).heap.size := by simp at hz4 ⊢; omega
                  exact ⟨j + 1, by omega, by go_num, by show OwnS _ _ _ _ _; rw [HF1.out]; exact hu2.out, by show OwnS _ _ _ _ _; rw [HF2.out]; exact ho2.out, ha2.out.symm, hE5, HOV.out.grw hg4.out hl4, HOU.out.grw hg5.out hl5, hb5⟩
                case measure => simp [intOf]; omega
              · rw [if_neg hpe, List.append_nil] at hfm
                have HF := Lib.hid hfm
                have hpe' : (pe == 0) = false := by simpa using hpe
                clear hfm hXl
                go_wp2_with fail
                refine (CP.out _).mono ?_
                rintro e w3 ⟨rfl, hb3⟩
                go_wp2_with fail
                go_roundw
                case rel => exact ⟨j + 1, by omega, by go_num, by show OwnS _ _ _ _ _; rw [HF.out]; exact hown.out.below hb3, by show OwnS _ _ _ _ _; rw [HF.out]; exact hun.out.below hb3, hap, HS2.out.below hb3, HOV, HOU, hb21.trans (hb3.mono hsB)⟩
                case measure => simp [intOf]; omega
            · have HT : Hid (dvs (V.take (k + 1)) = P ++ (E.take j).filterMap dvO) := by show _ = _; rw [HSN.out, List.take_of_length_le (by omega)]
              have hj1 : ¬ (j : Int) < (E.length : Int) := by omega
              go_wp2_with fail
              go_roundw
              case rel => exact ⟨k + 1, _, by omega, by go_num, rfl, by show OwnS _ _ _ _ _; rw [HT.out]; exact hown.out, by show OwnS _ _ _ _ _; rw [HT.out]; exact hun.out, hap, by show _ = _; rw [HFS.out]; rfl, hb21⟩
              case measure => simp [intOf]; omega
    · rw [List.take_of_length_le (show V.length ≤ k by omega)] at hown hun hfn
      obtain ⟨A1, c1, e1, hA1, _⟩ := hown.out.sls
      obtain ⟨A2, c2, e2, hA2, _⟩ := hun.out.sls
      rw [List.length_map] at e1 e2 hA1 hA2
      have hb := below_then HB.out hbel1
      have hi1 : ¬ (k : Int) < (V.length : Int) := by omega
      have HA1 := Lib.hid hA1
      have HA2 := Lib.hid hA2
      have HFN := Lib.hid hfn.out
      subst e1 e2
      clear hown hun hfn hA1 hA2 hap
      go_wp2_with fail
      go_ret3
      exact ⟨A1, c1, A2, c2, by rw [HFN.out]; rfl, HA1.out, HA2.out, hb⟩

end Go.Proofs.YtnembpklidcgoaaGreatDoor
end

/-
  Contracts of the reference's Parse, Asked (layer 13).
-/
section
namespace Go.Proofs.YtnembpklidcgoaaGreatDoor
open Go.RowKit

theorem has_map (D : List Dv) (nm : ByteArray) : hsN (D.map (·.1)) nm = hasD D nm := by
  unfold hsN hasD
  rw [List.any_map]
  rfl
theorem unqR_le : ∀ (l : List UInt8) (q : Nat) (t r : List UInt8), unqR q t l = some r → r.length ≤ t.length + l.length
  | [], q, t, r, h => by simp [unqR] at h
  | c :: l, q, t, r, h => by
    unfold unqR at h
    rw [List.length_cons]
    split at h
    · split at h
      · have e : t = r := by simpa using h
        rw [e]; omega
      · cases h
    · split at h
      · have := unqR_le l _ _ _ h
        omega
      · have := unqR_le l _ _ _ h
        rw [List.length_append, List.length_singleton] at this
        omega
theorem unqO_le (l : List UInt8) : (unqO l).length ≤ l.length := by
  unfold unqO
  cases l with
  | nil => exact Nat.zero_le _
  | cons c l =>
    cases e : unqL (c :: l) with
    | none => exact Nat.zero_le _
    | some r =>
      show r.length ≤ _
      have e2 : (if c = 34 then unqR 1 [] l else none) = some r := e
      by_cases hc : c = 34
      · rw [if_pos hc] at e2
        have := unqR_le _ _ _ _ e2
        simp only [List.length_nil] at this
        rw [List.length_cons]; omega
      · rw [if_neg hc] at e2; cases e2
theorem par_sz (s : ByteArray) : (parV s).size ≤ s.size := by
  unfold parV
  split
  · unfold valO
    split
    · exact flZ_le s 61
    · rw [mkS_size]
      exact Nat.le_trans (unqO_le _) (by rw [← Lib.size_eq]; exact flZ_le s 61)
  · exact Nat.zero_le _
theorem dvs_vals {V : List (List UInt8)} (h : ∀ v ∈ V, v.length ≤ 10000) : ∀ d ∈ dvs V, d.2.length ≤ 1000000 := fun d hd => by
  unfold dvs at hd
  obtain ⟨v, hv, hd2⟩ := List.mem_flatMap.1 hd
  unfold dvV at hd2
  obtain ⟨e, he, hd3⟩ := List.mem_filterMap.1 hd2
  have hz := (spl_sz (h v hv)).2 e he
  unfold dvO at hd3
  split at hd3
  · simp only [Option.some.injEq] at hd3
    rw [← hd3]
    show (parV (mkS e)).data.toList.length ≤ _
    rw [← Lib.size_eq]
    have h1 : (parV (mkS e)).size ≤ (mkS e).size := par_sz _
    rw [mkS_size] at h1
    omega
  · cases hd3

theorem all_small {L : List Fd} {nm : ByteArray} (hB : ∀ x ∈ L, x.2.size ≤ 10000) : ∀ v ∈ fdAll L nm, v.length ≤ 10000 := fun x hx => by
  unfold fdAll at hx
  obtain ⟨y, hy, rfl⟩ := List.mem_map.1 hx
  rw [← Lib.size_eq]
  exact hB y (List.mem_filter.1 hy).1
theorem all_many {L : List Fd} {nm : ByteArray} {n : Nat} (h : L.length ≤ n) : (fdAll L nm).length ≤ n := by
  unfold fdAll
  rw [List.length_map]
  exact Nat.le_trans (List.length_filter_le _ _) h

set_option maxHeartbeats 16000000 in
set_option maxRecDepth 100000 in
theorem r_ctlParse (A : Option Addr) (n c : Nat) (L : List Fd) (w : World) (h : SlF w A n c L) (hn : n ≤ 1000) (hB : ∀ x ∈ L, x.2.size ≤ 10000) :
    Calls Tryz.prog 46 #[.slice A n c] w fun e w' => e = .returned (.agg (ctC (ctP L))) ∧ Below w.heap.size w w' := by
  have C1 := Lib.hid (fun W (hW : Below w.heap.size w W) => r_elements A n c L W (h.below hW) hn hB)
  have hdv := dvs_vals (all_small (nm := ccS) hB)
  have hlen : (dvs (fdAll L ccS)).length ≤ 1000000000 := by
    refine Nat.le_trans (dvs_len _ (all_small hB)) ?_
    have := all_many (L := L) (nm := ccS) (n := 1000) (by rw [h.len]; exact hn)
    omega
  have hD : ctP L = ctD (dvs (fdAll L ccS)) (fnV (fdAll L ccS)) := rfl
  rw [hD]
  clear hD
  generalize dvs (fdAll L ccS) = D at *
  generalize fnV (fdAll L ccS) = fine at *
  have Cns := Lib.hid (fun W A c (hW : SlS W A D.length c (D.map (·.1))) => r_has13 A D.length c (D.map (·.1)) nsS W hW hlen)
  have Cnsv := Lib.hid (has_map D nsS)
  have Cnc := Lib.hid (fun W A c (hW : SlS W A D.length c (D.map (·.1))) => r_has13 A D.length c (D.map (·.1)) ncS W hW hlen)
  have Cncv := Lib.hid (has_map D ncS)
  have Cpv := Lib.hid (fun W A c (hW : SlS W A D.length c (D.map (·.1))) => r_has13 A D.length c (D.map (·.1)) pvS W hW hlen)
  have Cpvv := Lib.hid (has_map D pvS)
  have Cpu := Lib.hid (fun W A c (hW : SlS W A D.length c (D.map (·.1))) => r_has13 A D.length c (D.map (·.1)) puS W hW hlen)
  have Cpuv := Lib.hid (has_map D puS)
  have Cmr := Lib.hid (fun W A c (hW : SlS W A D.length c (D.map (·.1))) => r_has13 A D.length c (D.map (·.1)) mrS W hW hlen)
  have Cmrv := Lib.hid (has_map D mrS)
  have Cxr := Lib.hid (fun W A c (hW : SlS W A D.length c (D.map (·.1))) => r_has13 A D.length c (D.map (·.1)) xrS W hW hlen)
  have Cxrv := Lib.hid (has_map D xrS)
  have Coi := Lib.hid (fun W A c (hW : SlS W A D.length c (D.map (·.1))) => r_has13 A D.length c (D.map (·.1)) oiS W hW hlen)
  have Coiv := Lib.hid (has_map D oiS)
  have Cma := Lib.hid (fun W A B c d (hW : SlS W A D.length c (D.map (·.1))) (hW2 : SlS W B D.length d (D.map (·.2))) => r_lstS A B D.length c d D maS W hW hW2 hlen hdv)
  have Csm := Lib.hid (fun W A B c d (hW : SlS W A D.length c (D.map (·.1))) (hW2 : SlS W B D.length d (D.map (·.2))) => r_lstS A B D.length c d D smS W hW hW2 hlen hdv)
  have Cmf := Lib.hid (fun W A B c d (hW : SlS W A D.length c (D.map (·.1))) (hW2 : SlS W B D.length d (D.map (·.2))) => r_grtS A B D.length c d D mfS W hW hW2 hlen hdv)
  have hctd : ctC (ctD D fine) = #[.bool (!fine || hasD D nsS), .bool (!fine || hasD D ncS), .bool (hasD D pvS), .bool (hasD D puS), .bool (hasD D mrS || hasD D xrS), .bool (hasD D oiS), .int .i64 (D.foldl (lstS maS) (-1)), .int .i64 (D.foldl (lstS smS) (-1)), .int .i64 (D.foldl (grtS mfS) (-1))] := rfl
  rw [hctd]
  clear hctd h hB hn hlen hdv
  generalize hsN (D.map (·.1)) nsS = hnsS at *
  generalize hsN (D.map (·.1)) ncS = hncS at *
  generalize hsN (D.map (·.1)) pvS = hpvS at *
  generalize hsN (D.map (·.1)) puS = hpuS at *
  generalize hsN (D.map (·.1)) mrS = hmrS at *
  generalize hsN (D.map (·.1)) xrS = hxrS at *
  generalize hsN (D.map (·.1)) oiS = hoiS at *
  generalize hasD D nsS = ns at *
  generalize hasD D ncS = nc at *
  generalize hasD D pvS = pv at *
  generalize hasD D puS = pu at *
  generalize hasD D mrS = mr at *
  generalize hasD D xrS = xr at *
  generalize hasD D oiS = oi at *
  generalize hma : D.foldl (lstS maS) (-1) = ma at *
  generalize hsm : D.foldl (lstS smS) (-1) = sm at *
  generalize hmf : D.foldl (grtS mfS) (-1) = mf at *
  unfold nsS ncS pvS puS mrS xrS oiS maS smS mfS at *
  have HZ : Hid ((w.alloc (.cells #[.bool false, .bool false, .bool false, .bool false, .bool false, .bool false, .int .i64 0, .int .i64 0, .int .i64 0] 44)).heap[w.heap.size]? = some (.cells #[.bool false, .bool false, .bool false, .bool false, .bool false, .bool false, .int .i64 0, .int .i64 0, .int .i64 0] 44 (0, 0))) := heap_alloc_new w _
  have HB : Hid (Below w.heap.size w (w.alloc (.cells #[.bool false, .bool false, .bool false, .bool false, .bool false, .bool false, .int .i64 0, .int .i64 0, .int .i64 0] 44))) := (Below.refl _ _).alloc (Nat.le_refl _) _
  cases fine with
  | true =>
    cases mr with
    | true =>
      have HR : Hid ((#[.bool (!true || ns), .bool (!true || nc), .bool pv, .bool pu, .bool (true || xr), .bool oi, .int .i64 ma, .int .i64 sm, .int .i64 mf] : Array Value) = #[.bool ns, .bool nc, .bool pv, .bool pu, .bool true, .bool oi, .int .i64 ma, .int .i64 sm, .int .i64 mf]) := rfl
      go_enter Tryz.func46, Tryz.ntmps46
      go_wp2_with fail
      refine (C1.out _ HB.out).mono ?_
      rintro e w1 ⟨A1, c1, A2, c2, rfl, hA1, hA2, hb⟩
      have HZ1 := Lib.hid (zero_still hb HZ.out)
      have HB1 := Lib.hid (below_then HB.out hb)
      have HA := Lib.hid hA1
      have HB2 := Lib.hid hA2
      clear hb hA1 hA2
      go_wp2_with fail
      refine (Cns.out _ _ _ HA.out).mono ?_
      rintro e w2 ⟨he, rfl⟩
      rw [Cnsv.out] at he
      subst he
      go_wp2_with fail
      refine (Cnc.out _ _ _ HA.out).mono ?_
      rintro e w2 ⟨he, rfl⟩
      rw [Cncv.out] at he
      subst he
      go_wp2_with fail
      refine (Cpv.out _ _ _ HA.out).mono ?_
      rintro e w2 ⟨he, rfl⟩
      rw [Cpvv.out] at he
      subst he
      go_wp2_with fail
      refine (Cpu.out _ _ _ HA.out).mono ?_
      rintro e w2 ⟨he, rfl⟩
      rw [Cpuv.out] at he
      subst he
      go_wp2_with fail
      refine (Cmr.out _ _ _ HA.out).mono ?_
      rintro e w2 ⟨he, rfl⟩
      rw [Cmrv.out] at he
      subst he
      go_wp2_with fail
      refine (Coi.out _ _ _ HA.out).mono ?_
      rintro e w2 ⟨he, rfl⟩
      rw [Coiv.out] at he
      subst he
      go_wp2_with fail
      refine (Cma.out _ _ _ _ _ HA.out HB2.out).mono ?_
      rintro e w2 ⟨rfl, rfl⟩
      go_wp2_with fail
      refine (Csm.out _ _ _ _ _ HA.out HB2.out).mono ?_
      rintro e w2 ⟨rfl, rfl⟩
      go_wp2_with fail
      refine (Cmf.out _ _ _ _ _ HA.out HB2.out).mono ?_
      rintro e w2 ⟨rfl, rfl⟩
      go_wp2_with (refine wpList_store_row rfl _ _ _ rfl w.heap.size #[.bool ns, .bool nc, .bool pv, .bool pu, .bool true, .bool oi, .int .i64 ma, .int .i64 sm, .int .i64 mf] rfl rfl 44 _ HZ1.out (by kernel_rfl) rfl (by simp [Value.oneCell']) ?_)
      refine bodyPost_ret (results_cell_row rfl _ _ w.heap.size 44 #[.bool ns, .bool nc, .bool pv, .bool pu, .bool true, .bool oi, .int .i64 ma, .int .i64 sm, .int .i64 mf] (0, 0) _ rfl (setRow_heap _ _ _ _ _ _ HZ1.out) Tryz.underlying44 rfl (by kernel_rfl)) rfl ?_
      exact ⟨by rw [HR.out], below_setRow HB1.out (Nat.le_refl _) _⟩
    | false =>
      have HR : Hid ((#[.bool (!true || ns), .bool (!true || nc), .bool pv, .bool pu, .bool (false || xr), .bool oi, .int .i64 ma, .int .i64 sm, .int .i64 mf] : Array Value) = #[.bool ns, .bool nc, .bool pv, .bool pu, .bool xr, .bool oi, .int .i64 ma, .int .i64 sm, .int .i64 mf]) := rfl
      go_enter Tryz.func46, Tryz.ntmps46
      go_wp2_with fail
      refine (C1.out _ HB.out).mono ?_
      rintro e w1 ⟨A1, c1, A2, c2, rfl, hA1, hA2, hb⟩
      have HZ1 := Lib.hid (zero_still hb HZ.out)
      have HB1 := Lib.hid (below_then HB.out hb)
      have HA := Lib.hid hA1
      have HB2 := Lib.hid hA2
      clear hb hA1 hA2
      go_wp2_with fail
      refine (Cns.out _ _ _ HA.out).mono ?_
      rintro e w2 ⟨he, rfl⟩
      rw [Cnsv.out] at he
      subst he
      go_wp2_with fail
      refine (Cnc.out _ _ _ HA.out).mono ?_
      rintro e w2 ⟨he, rfl⟩
      rw [Cncv.out] at he
      subst he
      go_wp2_with fail
      refine (Cpv.out _ _ _ HA.out).mono ?_
      rintro e w2 ⟨he, rfl⟩
      rw [Cpvv.out] at he
      subst he
      go_wp2_with fail
      refine (Cpu.out _ _ _ HA.out).mono ?_
      rintro e w2 ⟨he, rfl⟩
      rw [Cpuv.out] at he
      subst he
      go_wp2_with fail
      refine (Cmr.out _ _ _ HA.out).mono ?_
      rintro e w2 ⟨he, rfl⟩
      rw [Cmrv.out] at he
      subst he
      go_wp2_with fail
      refine (Cxr.out _ _ _ HA.out).mono ?_
      rintro e w2 ⟨he, rfl⟩
      rw [Cxrv.out] at he
      subst he
      go_wp2_with fail
      refine (Coi.out _ _ _ HA.out).mono ?_
      rintro e w2 ⟨he, rfl⟩
      rw [Coiv.out] at he
      subst he
      go_wp2_with fail
      refine (Cma.out _ _ _ _ _ HA.out HB2.out).mono ?_
      rintro e w2 ⟨rfl, rfl⟩
      go_wp2_with fail
      refine (Csm.out _ _ _ _ _ HA.out HB2.out).mono ?_
      rintro e w2 ⟨rfl, rfl⟩
      go_wp2_with fail
      refine (Cmf.out _ _ _ _ _ HA.out HB2.out).mono ?_
      rintro e w2 ⟨rfl, rfl⟩
      go_wp2_with (refine wpList_store_row rfl _ _ _ rfl w.heap.size #[.bool ns, .bool nc, .bool pv, .bool pu, .bool xr, .bool oi, .int .i64 ma, .int .i64 sm, .int .i64 mf] rfl rfl 44 _ HZ1.out (by kernel_rfl) rfl (by simp [Value.oneCell']) ?_)
      refine bodyPost_ret (results_cell_row rfl _ _ w.heap.size 44 #[.bool ns, .bool nc, .bool pv, .bool pu, .bool xr, .bool oi, .int .i64 ma, .int .i64 sm, .int .i64 mf] (0, 0) _ rfl (setRow_heap _ _ _ _ _ _ HZ1.out) Tryz.underlying44 rfl (by kernel_rfl)) rfl ?_
      exact ⟨by rw [HR.out], below_setRow HB1.out (Nat.le_refl _) _⟩
  | false =>
    cases mr with
    | true =>
      have HR : Hid ((#[.bool (!false || ns), .bool (!false || nc), .bool pv, .bool pu, .bool (true || xr), .bool oi, .int .i64 ma, .int .i64 sm, .int .i64 mf] : Array Value) = #[.bool true, .bool true, .bool pv, .bool pu, .bool true, .bool oi, .int .i64 ma, .int .i64 sm, .int .i64 mf]) := rfl
      go_enter Tryz.func46, Tryz.ntmps46
      go_wp2_with fail
      refine (C1.out _ HB.out).mono ?_
      rintro e w1 ⟨A1, c1, A2, c2, rfl, hA1, hA2, hb⟩
      have HZ1 := Lib.hid (zero_still hb HZ.out)
      have HB1 := Lib.hid (below_then HB.out hb)
      have HA := Lib.hid hA1
      have HB2 := Lib.hid hA2
      clear hb hA1 hA2
      go_wp2_with fail
      refine (Cpv.out _ _ _ HA.out).mono ?_
      rintro e w2 ⟨he, rfl⟩
      rw [Cpvv.out] at he
      subst he
      go_wp2_with fail
      refine (Cpu.out _ _ _ HA.out).mono ?_
      rintro e w2 ⟨he, rfl⟩
      rw [Cpuv.out] at he
      subst he
      go_wp2_with fail
      refine (Cmr.out _ _ _ HA.out).mono ?_
      rintro e w2 ⟨he, rfl⟩
      rw [Cmrv.out] at he
      subst he
      go_wp2_with fail
      refine (Coi.out _ _ _ HA.out).mono ?_
      rintro e w2 ⟨he, rfl⟩
      rw [Coiv.out] at he
      subst he
      go_wp2_with fail
      refine (Cma.out _ _ _ _ _ HA.out HB2.out).mono ?_
      rintro e w2 ⟨rfl, rfl⟩
      go_wp2_with fail
      refine (Csm.out _ _ _ _ _ HA.out HB2.out).mono ?_
      rintro e w2 ⟨rfl, rfl⟩
      go_wp2_with fail
      refine (Cmf.out _ _ _ _ _ HA.out HB2.out).mono ?_
      rintro e w2 ⟨rfl, rfl⟩
      go_wp2_with (refine wpList_store_row rfl _ _ _ rfl w.heap.size #[.bool true, .bool true, .bool pv, .bool pu, .bool true, .bool oi, .int .i64 ma, .int .i64 sm, .int .i64 mf] rfl rfl 44 _ HZ1.out (by kernel_rfl) rfl (by simp [Value.oneCell']) ?_)
      refine bodyPost_ret (results_cell_row rfl _ _ w.heap.size 44 #[.bool true, .bool true, .bool pv, .bool pu, .bool true, .bool oi, .int .i64 ma, .int .i64 sm, .int .i64 mf] (0, 0) _ rfl (setRow_heap _ _ _ _ _ _ HZ1.out) Tryz.underlying44 rfl (by kernel_rfl)) rfl ?_
      exact ⟨by rw [HR.out], below_setRow HB1.out (Nat.le_refl _) _⟩
    | false =>
      have HR : Hid ((#[.bool (!false || ns), .bool (!false || nc), .bool pv, .bool pu, .bool (false || xr), .bool oi, .int .i64 ma, .int .i64 sm, .int .i64 mf] : Array Value) = #[.bool true, .bool true, .bool pv, .bool pu, .bool xr, .bool oi, .int .i64 ma, .int .i64 sm, .int .i64 mf]) := rfl
      go_enter Tryz.func46, Tryz.ntmps46
      go_wp2_with fail
      refine (C1.out _ HB.out).mono ?_
      rintro e w1 ⟨A1, c1, A2, c2, rfl, hA1, hA2, hb⟩
      have HZ1 := Lib.hid (zero_still hb HZ.out)
      have HB1 := Lib.hid (below_then HB.out hb)
      have HA := Lib.hid hA1
      have HB2 := Lib.hid hA2
      clear hb hA1 hA2
      go_wp2_with fail
      refine (Cpv.out _ _ _ HA.out).mono ?_
      rintro e w2 ⟨he, rfl⟩
      rw [Cpvv.out] at he
      subst he
      go_wp2_with fail
      refine (Cpu.out _ _ _ HA.out).mono ?_
      rintro e w2 ⟨he, rfl⟩
      rw [Cpuv.out] at he
      subst he
      go_wp2_with fail
      refine (Cmr.out _ _ _ HA.out).mono ?_
      rintro e w2 ⟨he, rfl⟩
      rw [Cmrv.out] at he
      subst he
      go_wp2_with fail
      refine (Cxr.out _ _ _ HA.out).mono ?_
      rintro e w2 ⟨he, rfl⟩
      rw [Cxrv.out] at he
      subst he
      go_wp2_with fail
      refine (Coi.out _ _ _ HA.out).mono ?_
      rintro e w2 ⟨he, rfl⟩
      rw [Coiv.out] at he
      subst he
      go_wp2_with fail
      refine (Cma.out _ _ _ _ _ HA.out HB2.out).mono ?_
      rintro e w2 ⟨rfl, rfl⟩
      go_wp2_with fail
      refine (Csm.out _ _ _ _ _ HA.out HB2.out).mono ?_
      rintro e w2 ⟨rfl, rfl⟩
      go_wp2_with fail
      refine (Cmf.out _ _ _ _ _ HA.out HB2.out).mono ?_
      rintro e w2 ⟨rfl, rfl⟩
      go_wp2_with (refine wpList_store_row rfl _ _ _ rfl w.heap.size #[.bool true, .bool true, .bool pv, .bool pu, .bool xr, .bool oi, .int .i64 ma, .int .i64 sm, .int .i64 mf] rfl rfl 44 _ HZ1.out (by kernel_rfl) rfl (by simp [Value.oneCell']) ?_)
      refine bodyPost_ret (results_cell_row rfl _ _ w.heap.size 44 #[.bool true, .bool true, .bool pv, .bool pu, .bool xr, .bool oi, .int .i64 ma, .int .i64 sm, .int .i64 mf] (0, 0) _ rfl (setRow_heap _ _ _ _ _ _ HZ1.out) Tryz.underlying44 rfl (by kernel_rfl)) rfl ?_
      exact ⟨by rw [HR.out], below_setRow HB1.out (Nat.le_refl _) _⟩

theorem ct_set {W : World} {g t : Nat} {c0 c1 c2 c3 c4 c5 c6 c7 c8 b : Value} (h : W.heap[g]? = some (.cells #[c0, c1, c2, c3, c4, c5, c6, c7, c8] t (0, 0))) : (W.setCell ⟨g, 1, none⟩ b).heap[g]? = some (.cells #[c0, b, c2, c3, c4, c5, c6, c7, c8] t (0, 0)) := by
  simp [World.setCell, Array.getElem?_modify, h]
theorem ct_set_other {W : World} {g k : Nat} {b : Value} {o : Obj} (hk : k ≠ g) (h : W.heap[k]? = some o) : (W.setCell ⟨g, 1, none⟩ b).heap[k]? = some o := by
  simp [World.setCell, Array.getElem?_modify, h, Ne.symm hk]
theorem prS_le : prS.size ≤ maxLen := by decide
theorem ncS_le : ncS.size ≤ maxLen := by decide
set_option maxHeartbeats 16000000 in
set_option maxRecDepth 100000 in
theorem r_ctlAsked (A : Option Addr) (n c : Nat) (L : List Fd) (w : World) (h : SlF w A n c L) (hn : n ≤ 1000) (hB : ∀ x ∈ L, x.2.size ≤ 10000) :
    Calls Tryz.prog 45 #[.slice A n c] w fun e w' => e = .returned (.agg (ctC (ctA L))) ∧ Below w.heap.size w w' := by
  have C1 := Lib.hid (fun W (hW : Below w.heap.size w W) => r_ctlParse A n c L W (h.below hW) hn hB)
  have C2 := Lib.hid (fun W (hW : Below w.heap.size w W) => rf_all A n c L ccS W (h.below hW) (by omega) ccS_le)
  have C3 := Lib.hid (fun W (hW : Below w.heap.size w W) => rf_has A n c L prS ncS W (h.below hW) (by omega) prS_le ncS_le hB)
  have hD : ctA L = if (fdAll L ccS).length = 0 ∧ fdHas L prS ncS = true then { ctP L with nc := true } else ctP L := rfl
  generalize ctA L = R at *
  generalize ctP L = c0 at *
  generalize fdAll L ccS = V at *
  generalize fdHas L prS ncS = hs at *
  unfold ccS at C2
  unfold prS ncS at C3
  obtain ⟨ns, nc, pv, pu, mc, oi, ma, sh, mf⟩ := c0
  have HZ : Hid ((w.alloc (.cells #[.bool false, .bool false, .bool false, .bool false, .bool false, .bool false, .int .i64 0, .int .i64 0, .int .i64 0] 44)).heap[w.heap.size]? = some (.cells #[.bool false, .bool false, .bool false, .bool false, .bool false, .bool false, .int .i64 0, .int .i64 0, .int .i64 0] 44 (0, 0))) := heap_alloc_new w _
  have HB : Hid (Below w.heap.size w (w.alloc (.cells #[.bool false, .bool false, .bool false, .bool false, .bool false, .bool false, .int .i64 0, .int .i64 0, .int .i64 0] 44))) := (Below.refl _ _).alloc (Nat.le_refl _) _
  unfold ctC at C1
  simp only at C1 hD
  clear h hn hB
  by_cases hV : V.length = 0
  · have hV1 : ((V.length : Int) == 0) = true := by rw [hV]; rfl
    cases hs with
    | true =>
      rw [if_pos ⟨hV, rfl⟩] at hD
      have HR := Lib.hid hD
      clear hD
      go_enter Tryz.func45, Tryz.ntmps45
      go_wp2_with fail
      refine (C1.out _ HB.out).mono ?_
      rintro e w1 ⟨rfl, hb⟩
      have HZ1 := Lib.hid (zero_more (o' := .cells #[.bool ns, .bool nc, .bool pv, .bool pu, .bool mc, .bool oi, .int .i64 ma, .int .i64 sh, .int .i64 mf] 44) (zero_still hb HZ.out))
      have hb1 := below_then HB.out hb
      have HB1 := Lib.hid (hb1.alloc hb1.size (.cells #[.bool ns, .bool nc, .bool pv, .bool pu, .bool mc, .bool oi, .int .i64 ma, .int .i64 sh, .int .i64 mf] 44))
      have HO1 := Lib.hid (heap_alloc_new w1 (.cells #[.bool ns, .bool nc, .bool pv, .bool pu, .bool mc, .bool oi, .int .i64 ma, .int .i64 sh, .int .i64 mf] 44))
      have HLT : Hid (w.heap.size ≠ w1.heap.size) := by
        have := (Array.getElem?_eq_some_iff.1 (zero_still hb HZ.out)).1
        exact Nat.ne_of_lt this
      clear hb hb1
      go_wp2_with fail
      refine (C2.out _ HB1.out).mono ?_
      rintro e w2 ⟨A2, c2, rfl, _, _, hb⟩
      have HZ2 := Lib.hid (zero_still hb HZ1.out)
      have HO2 := Lib.hid (zero_still hb HO1.out)
      have HB2 := Lib.hid (below_then HB1.out hb)
      clear hb
      have HLE : Hid (w.heap.size ≤ w1.heap.size) := by have := (Array.getElem?_eq_some_iff.1 HZ1.out).1; have h2 := HLT.out; simp at this; show _ ≤ _; omega
      go_wp2_with fail
      refine (C3.out _ HB2.out).mono ?_
      rintro e w3 ⟨rfl, hb⟩
      have HZ2 := Lib.hid (zero_still hb HZ2.out)
      have HO2 := Lib.hid (zero_still hb HO2.out)
      have HB2 := Lib.hid (below_then HB2.out hb)
      clear hb
      have hcl : w3.cell? ⟨w1.heap.size, 1, none⟩ = some (.bool nc) := by rw [cell_of_row _ _ _ _ _ _ HO2.out]; rfl
      have hfz : w3.frozen? ⟨w1.heap.size, 1, none⟩ = false := by have := HO2.out; simp [World.frozen?, this]
      have HO3 := Lib.hid (ct_set (b := .bool true) HO2.out)
      have HZ3 := Lib.hid (ct_set_other (b := .bool true) HLT.out HZ2.out)
      have HB3 := Lib.hid (HB2.out.setCell (p := ⟨w1.heap.size, 1, none⟩) HLE.out (.bool true))
      go_wp2_with (first | (refine wpList_load_row rfl _ _ rfl w1.heap.size rfl 44 #[.bool ns, .bool true, .bool pv, .bool pu, .bool mc, .bool oi, .int .i64 ma, .int .i64 sh, .int .i64 mf] (0, 0) _ HO3.out Tryz.underlying44 rfl (by kernel_rfl) ?_) | (refine wpList_store_row rfl _ _ _ rfl w.heap.size #[.bool ns, .bool true, .bool pv, .bool pu, .bool mc, .bool oi, .int .i64 ma, .int .i64 sh, .int .i64 mf] rfl rfl 44 _ HZ3.out (by kernel_rfl) rfl (by simp [Value.oneCell']) ?_))
      refine bodyPost_ret (results_cell_row rfl _ _ w.heap.size 44 #[.bool ns, .bool true, .bool pv, .bool pu, .bool mc, .bool oi, .int .i64 ma, .int .i64 sh, .int .i64 mf] (0, 0) _ rfl (setRow_heap _ _ _ _ _ _ HZ3.out) Tryz.underlying44 rfl (by kernel_rfl)) rfl ?_
      exact ⟨by rw [HR.out]; rfl, below_setRow HB3.out (Nat.le_refl _) _⟩
    | false =>
      rw [if_neg (by simp)] at hD
      have HR := Lib.hid hD
      clear hD
      go_enter Tryz.func45, Tryz.ntmps45
      go_wp2_with fail
      refine (C1.out _ HB.out).mono ?_
      rintro e w1 ⟨rfl, hb⟩
      have HZ1 := Lib.hid (zero_more (o' := .cells #[.bool ns, .bool nc, .bool pv, .bool pu, .bool mc, .bool oi, .int .i64 ma, .int .i64 sh, .int .i64 mf] 44) (zero_still hb HZ.out))
      have hb1 := below_then HB.out hb
      have HB1 := Lib.hid (hb1.alloc hb1.size (.cells #[.bool ns, .bool nc, .bool pv, .bool pu, .bool mc, .bool oi, .int .i64 ma, .int .i64 sh, .int .i64 mf] 44))
      have HO1 := Lib.hid (heap_alloc_new w1 (.cells #[.bool ns, .bool nc, .bool pv, .bool pu, .bool mc, .bool oi, .int .i64 ma, .int .i64 sh, .int .i64 mf] 44))
      have HLT : Hid (w.heap.size ≠ w1.heap.size) := by
        have := (Array.getElem?_eq_some_iff.1 (zero_still hb HZ.out)).1
        exact Nat.ne_of_lt this
      clear hb hb1
      go_wp2_with fail
      refine (C2.out _ HB1.out).mono ?_
      rintro e w2 ⟨A2, c2, rfl, _, _, hb⟩
      have HZ2 := Lib.hid (zero_still hb HZ1.out)
      have HO2 := Lib.hid (zero_still hb HO1.out)
      have HB2 := Lib.hid (below_then HB1.out hb)
      clear hb
      go_wp2_with fail
      refine (C3.out _ HB2.out).mono ?_
      rintro e w3 ⟨rfl, hb⟩
      have HZ2 := Lib.hid (zero_still hb HZ2.out)
      have HO2 := Lib.hid (zero_still hb HO2.out)
      have HB2 := Lib.hid (below_then HB2.out hb)
      clear hb
      go_wp2_with (first | (refine wpList_load_row rfl _ _ rfl w1.heap.size rfl 44 #[.bool ns, .bool nc, .bool pv, .bool pu, .bool mc, .bool oi, .int .i64 ma, .int .i64 sh, .int .i64 mf] (0, 0) _ HO2.out Tryz.underlying44 rfl (by kernel_rfl) ?_) | (refine wpList_store_row rfl _ _ _ rfl w.heap.size #[.bool ns, .bool nc, .bool pv, .bool pu, .bool mc, .bool oi, .int .i64 ma, .int .i64 sh, .int .i64 mf] rfl rfl 44 _ HZ2.out (by kernel_rfl) rfl (by simp [Value.oneCell']) ?_))
      refine bodyPost_ret (results_cell_row rfl _ _ w.heap.size 44 #[.bool ns, .bool nc, .bool pv, .bool pu, .bool mc, .bool oi, .int .i64 ma, .int .i64 sh, .int .i64 mf] (0, 0) _ rfl (setRow_heap _ _ _ _ _ _ HZ2.out) Tryz.underlying44 rfl (by kernel_rfl)) rfl ?_
      exact ⟨by rw [HR.out]; rfl, below_setRow HB2.out (Nat.le_refl _) _⟩
  · have hV1 : ((V.length : Int) == 0) = false := by rw [beq_eq_false_iff_ne]; omega
    rw [if_neg (fun h => hV h.1)] at hD
    have HR := Lib.hid hD
    clear hD
    go_enter Tryz.func45, Tryz.ntmps45
    go_wp2_with fail
    refine (C1.out _ HB.out).mono ?_
    rintro e w1 ⟨rfl, hb⟩
    have HZ1 := Lib.hid (zero_more (o' := .cells #[.bool ns, .bool nc, .bool pv, .bool pu, .bool mc, .bool oi, .int .i64 ma, .int .i64 sh, .int .i64 mf] 44) (zero_still hb HZ.out))
    have hb1 := below_then HB.out hb
    have HB1 := Lib.hid (hb1.alloc hb1.size (.cells #[.bool ns, .bool nc, .bool pv, .bool pu, .bool mc, .bool oi, .int .i64 ma, .int .i64 sh, .int .i64 mf] 44))
    have HO1 := Lib.hid (heap_alloc_new w1 (.cells #[.bool ns, .bool nc, .bool pv, .bool pu, .bool mc, .bool oi, .int .i64 ma, .int .i64 sh, .int .i64 mf] 44))
    have HLT : Hid (w.heap.size ≠ w1.heap.size) := by
      have := (Array.getElem?_eq_some_iff.1 (zero_still hb HZ.out)).1
      exact Nat.ne_of_lt this
    clear hb hb1
    go_wp2_with fail
    refine (C2.out _ HB1.out).mono ?_
    rintro e w2 ⟨A2, c2, rfl, _, _, hb⟩
    have HZ2 := Lib.hid (zero_still hb HZ1.out)
    have HO2 := Lib.hid (zero_still hb HO1.out)
    have HB2 := Lib.hid (below_then HB1.out hb)
    clear hb
    go_wp2_with (first | (refine wpList_load_row rfl _ _ rfl w1.heap.size rfl 44 #[.bool ns, .bool nc, .bool pv, .bool pu, .bool mc, .bool oi, .int .i64 ma, .int .i64 sh, .int .i64 mf] (0, 0) _ HO2.out Tryz.underlying44 rfl (by kernel_rfl) ?_) | (refine wpList_store_row rfl _ _ _ rfl w.heap.size #[.bool ns, .bool nc, .bool pv, .bool pu, .bool mc, .bool oi, .int .i64 ma, .int .i64 sh, .int .i64 mf] rfl rfl 44 _ HZ2.out (by kernel_rfl) rfl (by simp [Value.oneCell']) ?_))
    refine bodyPost_ret (results_cell_row rfl _ _ w.heap.size 44 #[.bool ns, .bool nc, .bool pv, .bool pu, .bool mc, .bool oi, .int .i64 ma, .int .i64 sh, .int .i64 mf] (0, 0) _ rfl (setRow_heap _ _ _ _ _ _ HZ2.out) Tryz.underlying44 rfl (by kernel_rfl)) rfl ?_
    exact ⟨by rw [HR.out]; rfl, below_setRow HB2.out (Nat.le_refl _) _⟩

end Go.Proofs.YtnembpklidcgoaaGreatDoor
end
