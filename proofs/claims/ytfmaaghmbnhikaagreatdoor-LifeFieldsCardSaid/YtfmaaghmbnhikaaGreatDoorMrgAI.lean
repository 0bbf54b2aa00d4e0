/-
  Texts that the laws of this seat lean on, one behind the other.
-/
import Derived.Test.YtfmaaghmbnhikaaGreatDoorMrgAH
import Derived.Test.YtfmaaghmbnhikaaGreatDoorMrgT
import Derived.Test.YtfmaaghmbnhikaaGreatDoorMrgR
import Derived.Laws.Cover1
import Derived.Lib.MinMax
import Derived.IntWalk
import Derived.Test.YtfmaaghmbnhikaaGreatDoorMrgZ
import Derived.Test.YtfmaaghmbnhikaaGreatDoorMrgG
/-
  Contracts of the reference's clock, apart, When, Date, Usual, Told (layer 17).
-/
section
namespace Go.Proofs.YtfmaaghmbnhikaaGreatDoor
open Go.RowKit

theorem r_clk (t : Int) (w : World) :
    Calls Tryz.prog 50 #[.int .i64 t] w fun e w' => e = .returned (.int .i64 (clkN t)) ∧ w = w' := by
  obtain ⟨R, hR⟩ : ∃ R, R = clkN t := ⟨_, rfl⟩
  rw [← hR]
  unfold clkN at hR
  have HR := Lib.hid hR
  clear hR
  go_enter Tryz.func50, Tryz.ntmps50
  go_wp2_with fail
  go_ret
  exact ⟨by rw [HR.out]; rfl, rfl⟩

theorem r_apr (a b : Int) (w : World) :
    Calls Tryz.prog 30 #[.int .i64 a, .int .i64 b] w fun e w' => e = .returned (.int .i64 (aprN a b)) ∧ w = w' := by
  obtain ⟨R, hR⟩ : ∃ R, R = aprN a b := ⟨_, rfl⟩
  rw [← hR]
  unfold aprN at hR
  have C1 := Lib.hid (fun W => r_clk a W)
  have C2 := Lib.hid (fun W => r_clk b W)
  obtain ⟨x0, x1⟩ := clkN_bd a
  obtain ⟨y0, y1⟩ := clkN_bd b
  generalize clkN a = x at *
  generalize clkN b = y at *
  have HR := Lib.hid hR
  clear hR
  go_enter Tryz.func30, Tryz.ntmps30
  go_wp2_with fail
  refine (C1.out _).mono ?_
  rintro e w1 ⟨rfl, rfl⟩
  go_wp2_with fail
  refine (C2.out _).mono ?_
  rintro e w2 ⟨rfl, rfl⟩
  go_wp2_with fail
  go_ret
  exact ⟨by rw [HR.out]; rfl, rfl⟩

set_option maxHeartbeats 4000000 in
set_option maxRecDepth 100000 in
theorem r_when (A : Option Addr) (c : Nat) (L : List Fd) (name : ByteArray) (w : World) (h : SlF w A L.length c L) (hL : FwL L) (hz : name.size ≤ maxLen) :
    Calls Tryz.prog 18 #[.slice A L.length c, .string name] w fun e w' => e = .returned (.tuple #[.int .i64 (whnV L name), .bool (whnB L name)]) ∧ Below w.heap.size w w' := by
  have C1 := Lib.hid (rf_all A L.length c L name w h (by have := hL.n; omega) hz)
  have hvz := (fwl_all hL name).2
  have hV : whnV L name = if (fdAll L name).length = 1 then (parT (mkS ((fdAll L name).headD []))).1 else 0 := rfl
  have hB : whnB L name = if (fdAll L name).length = 1 then decide ((parT (mkS ((fdAll L name).headD []))).2 = 0) else false := rfl
  generalize whnV L name = V at *
  generalize whnB L name = b at *
  generalize fdAll L name = X at *
  clear h hL hz
  unfold Vals at C1
  by_cases h1 : X.length = 1
  · rw [if_pos h1] at hV hB
    obtain ⟨x, rfl⟩ : ∃ x, X = [x] := by
      match X, h1 with
      | [x], _ => exact ⟨x, rfl⟩
    replace hV : V = (parT (mkS x)).1 := hV
    replace hB : b = decide ((parT (mkS x)).2 = 0) := hB
    have hxz := hvz x (List.mem_singleton.2 rfl)
    have CP := Lib.hid (fun W => r_parse (mkS x) (by rw [mkS_size]; omega) W)
    rw [← hV] at CP
    obtain ⟨q, hq⟩ : ∃ q, q = (parT (mkS x)).2 := ⟨_, rfl⟩
    rw [← hq] at CP
    replace hB : b = decide (q = 0) := by rw [hB, hq]
    clear hq
    obtain ⟨xs, hxs⟩ : ∃ xs, xs = mkS x := ⟨_, rfl⟩
    rw [← hxs] at CP
    have HX := Lib.hid hxs
    have HB := Lib.hid hB
    clear hV hB hvz hxs hxz
    simp only [List.length_singleton] at C1
    go_enter Tryz.func18, Tryz.ntmps18
    go_wp2_with fail
    refine C1.out.mono ?_
    rintro e w1 ⟨A1, c1, rfl, hS, _, hb1⟩
    obtain ⟨ad, rfl, hc⟩ := hS.at_ (by omega)
    have hcell := hc 0 x rfl
    rw [Addr.add_zero', ← HX.out] at hcell
    have HB1 := Lib.hid hb1
    clear hS hc hb1 C1
    go_wp2_with fail
    refine (CP.out _).mono ?_
    rintro e w2 ⟨rfl, hb2⟩
    go_wp2_with fail
    go_ret2
    exact ⟨by rw [HB.out]; first | done | rfl, below_then HB1.out hb2⟩
  · rw [if_neg h1] at hV hB
    subst hV hB
    have h1' : ¬ (X.length : Int) = 1 := by omega
    generalize X.length = n at *
    clear h1 hvz
    go_enter Tryz.func18, Tryz.ntmps18
    go_wp2_with fail
    refine C1.out.mono ?_
    rintro e w1 ⟨A1, c1, rfl, _, _, hb1⟩
    go_wp2_with fail
    go_ret2
    exact ⟨rfl, hb1⟩

set_option maxRecDepth 100000 in
theorem r_lusual (c : Int) (w : World) :
    Calls Tryz.prog 24 #[.int .i64 c] w fun e w' => e = .returned (.bool (usuB c)) ∧ Below w.heap.size w w' := by
  have hcell : ∀ (j : Nat) (x : Int), usuL[j]? = some x → (w.alloc (.cells #[.int .i64 200, .int .i64 203, .int .i64 204, .int .i64 300, .int .i64 301, .int .i64 308, .int .i64 404, .int .i64 405, .int .i64 410, .int .i64 414, .int .i64 501] 3)).cell? ⟨w.heap.size, j, none⟩ = some (.int .i64 x) := fun j x hx => by
    rw [cell_of_row _ _ _ _ _ _ (heap_alloc_new w _)]
    have e : (#[.int .i64 200, .int .i64 203, .int .i64 204, .int .i64 300, .int .i64 301, .int .i64 308, .int .i64 404, .int .i64 405, .int .i64 410, .int .i64 414, .int .i64 501] : Array Value) = (usuL.map (Value.int .i64)).toArray := rfl
    rw [e, List.getElem?_toArray, List.getElem?_map, hx]
    rfl
  have HC := Lib.hid hcell
  have HL := Lib.hid (show usuL.length = 11 from rfl)
  have HB0 : Hid (Below w.heap.size w (w.alloc (.cells #[.int .i64 200, .int .i64 203, .int .i64 204, .int .i64 300, .int .i64 301, .int .i64 308, .int .i64 404, .int .i64 405, .int .i64 410, .int .i64 414, .int .i64 501] 3))) := (Below.refl _ _).alloc (Nat.le_refl _) _
  have HD := Lib.hid (show usuB c = usuL.any fun x => x == c from rfl)
  generalize usuB c = R at *
  generalize usuL = N at *
  clear hcell
  go_enter Tryz.func24, Tryz.ntmps24
  go_wp2_with fail
  go_loop [4] (fun i => ∃ k : Nat, k ≤ 11 ∧ i = .int .i64 (k : Int) ∧ Hid (∀ j (hj : j < N.length), j < k → (N[j] == c) = false)) (fun i => 11 - (intOf i).toNat)
  case atStart => exact ⟨0, Nat.zero_le _, rfl, fun j hj h0 => absurd h0 (by omega)⟩
  case round =>
    obtain ⟨k, hk, rfl, hf⟩ := hrel
    by_cases hlt : k < 11
    · have hkN : k < N.length := by have := HL.out; omega
      have hcell := HC.out k N[k] (List.getElem?_eq_getElem hkN)
      have HH : Hid ((N[k] == c) = true → R = true) := fun h => by rw [HD.out]; exact List.any_eq_true.2 ⟨N[k], List.getElem_mem hkN, h⟩
      have HN : Hid ((N[k] == c) = false → ∀ j (hj : j < N.length), j < k + 1 → (N[j] == c) = false) := fun h j hj hjk => by
        by_cases e : j = k
        · subst e; exact h
        · exact hf.out j hj (by omega)
      generalize N[k] = z at *
      have hi0 : (0 : Int) ≤ (k : Int) := by omega
      have hi1 : (k : Int) < 11 := by omega
      clear hf
      cases hq : (z == c) with
      | true =>
        have HR := Lib.hid (HH.out hq)
        clear HH HN
        go_wp2_with fail
        go_ret
        exact ⟨by rw [HR.out]; rfl, HB0.out⟩
      | false =>
        have HR := Lib.hid (HN.out hq)
        clear HH HN
        go_wp2_with fail
        go_round
        case rel => exact ⟨k + 1, by omega, by go_num, HR.out⟩
        case measure => simp [intOf]; omega
    · have HR : Hid (R = false) := by
        show _ = _
        rw [HD.out, List.any_eq_false]
        intro n hn
        obtain ⟨j, hj, rfl⟩ := List.getElem_of_mem hn
        have := HL.out
        simp only [hf.out j hj (by omega), Bool.false_eq_true, not_false_eq_true]
      have hi1 : ¬ (k : Int) < 11 := by omega
      go_wp2_with fail
      go_ret
      exact ⟨by rw [HR.out]; rfl, HB0.out⟩

end Go.Proofs.YtfmaaghmbnhikaaGreatDoor
end

/-
  Contract of the reference's elements (layer 13).
-/
section
namespace Go.Proofs.YtfmaaghmbnhikaaGreatDoor
open Go.RowKit

theorem dvs_snoc (V : List (List UInt8)) (k : Nat) (h : k < V.length) : dvs (V.take (k + 1)) = dvs (V.take k) ++ dvV V[k] := by
  unfold dvs
  rw [List.take_succ_eq_append_getElem h, List.flatMap_append]
  simp
theorem fnV_snoc (V : List (List UInt8)) (k : Nat) (h : k < V.length) : fnV (V.take (k + 1)) = (fnV (V.take k) && decide (splE V[k] = 0)) := by
  unfold fnV
  rw [List.take_succ_eq_append_getElem h, List.all_append]
  simp
theorem dvV_len (v : List UInt8) : (dvV v).length ≤ v.length + 1 := by
  unfold dvV
  refine Nat.le_trans (List.length_filterMap_le _ _) ?_
  unfold splO
  cases e : splitL v with
  | none => exact Nat.zero_le _
  | some L => exact (split_good e).2
theorem dvs_len : ∀ V : List (List UInt8), (∀ v ∈ V, v.length ≤ 10000) → (dvs V).length ≤ V.length * 10001
  | [], _ => Nat.zero_le _
  | v :: V, h => by
    have h1 := dvs_len V fun x hx => h x (List.mem_cons_of_mem _ hx)
    have h2 := h v (List.mem_cons_self ..)
    have h3 := dvV_len v
    have : dvs (v :: V) = dvV v ++ dvs V := rfl
    rw [this, List.length_append, List.length_cons]
    omega
theorem fm_snoc (E : List (List UInt8)) (j : Nat) (h : j < E.length) : (E.take (j + 1)).filterMap dvO = (E.take j).filterMap dvO ++ (match dvO E[j] with | some d => [d] | none => []) := by
  rw [List.take_succ_eq_append_getElem h, List.filterMap_append]
  congr 1
  cases e : dvO E[j] with
  | none => simp [e]
  | some d => simp [e]
theorem spl_sz {v : List UInt8} (h : v.length ≤ 10000) : (splO v).length ≤ 10001 ∧ ∀ x ∈ splO v, x.length ≤ 10000 := by
  unfold splO
  cases e : splitL v with
  | none => exact ⟨by simp, fun x hx => by simp at hx⟩
  | some L =>
    obtain ⟨g1, g2⟩ := split_good e
    exact ⟨by show L.length ≤ _; omega, fun x hx => by have := (g1 x hx).2; omega⟩

theorem ccS_le : ccS.size ≤ maxLen := by decide
set_option maxHeartbeats 16000000 in
set_option maxRecDepth 100000 in
theorem r_elements (A : Option Addr) (n c : Nat) (L : List Fd) (w : World) (h : SlF w A n c L) (hn : n ≤ 1000) (hB : ∀ x ∈ L, x.2.size ≤ 10000) :
    Calls Tryz.prog 55 #[.slice A n c] w fun e w' => ∃ A1 c1 A2 c2, e = .returned (.tuple #[.slice A1 (dvs (fdAll L ccS)).length c1, .slice A2 (dvs (fdAll L ccS)).length c2, .bool (fnV (fdAll L ccS))]) ∧
      SlS w' A1 (dvs (fdAll L ccS)).length c1 ((dvs (fdAll L ccS)).map (·.1)) ∧ SlS w' A2 (dvs (fdAll L ccS)).length c2 ((dvs (fdAll L ccS)).map (·.2)) ∧ Below w.heap.size w w' := by
  have C1 := Lib.hid (rf_all A n c L ccS w h (by omega) ccS_le)
  have hVz : ∀ x ∈ fdAll L ccS, x.length ≤ 10000 := fun x hx => by
    unfold fdAll at hx
    obtain ⟨y, hy, rfl⟩ := List.mem_map.1 hx
    rw [← Lib.size_eq]
    exact hB y (List.mem_filter.1 hy).1
  have hVn : (fdAll L ccS).length ≤ 1000 := by
    unfold fdAll
    rw [List.length_map]
    exact Nat.le_trans (List.length_filter_le _ _) (by rw [h.len]; exact hn)
  generalize fdAll L ccS = V at *
  unfold ccS at C1
  clear h hB hn
  go_enter Tryz.func55, Tryz.ntmps55
  go_wp2_with fail
  refine C1.out.mono ?_
  rintro e w1 ⟨A0, c0, rfl, hS, _, hb1⟩
  have HS := Lib.hid hS
  have HB := Lib.hid hb1
  clear hb1 hS C1
  go_wp2_with fail
  go_loopw [5, 6, 7, 9] (fun v u g i wr => ∃ (k : Nat) (b : Bool), k ≤ V.length ∧ i = .int .i64 (k : Int) ∧ g = .bool b ∧ Hid (OwnS wr w1.heap.size 9 v ((dvs (V.take k)).map (·.1))) ∧ Hid (OwnS wr w1.heap.size 9 u ((dvs (V.take k)).map (·.2))) ∧ Hid (Apt u v) ∧ Hid (b = fnV (V.take k)) ∧ Below w1.heap.size w1 wr) (fun _ _ _ i _ => V.length - (intOf i).toNat)
  case atStart => exact ⟨0, true, Nat.zero_le _, rfl, rfl, OwnS.nil _ _ _, OwnS.nil _ _ _, Apt.none_ _, rfl, Below.refl _ _⟩
  case round =>
    obtain ⟨k, b, hk, rfl, rfl, hown, hun, hap, hfn, hbel1⟩ := hrel
    by_cases hlt : k < V.length
    · obtain ⟨ad, rfl, hc⟩ := HS.out.at_ (by omega)
      have hcell := cell_kept hbel1 (hc k V[k] (List.getElem?_eq_getElem hlt))
      have hvz := hVz _ (List.getElem_mem hlt)
      have hsn := dvs_snoc V k hlt
      have hfs := fnV_snoc V k hlt
      obtain ⟨hEn, hEz⟩ := spl_sz hvz
      have hPl := dvs_len (V.take k) (fun x hx => hVz x (List.mem_of_mem_take hx))
      have hPk : (V.take k).length ≤ 1000 := by rw [List.length_take]; omega
      have CS := Lib.hid (fun W => r_split_f (mkS V[k]) W (by rw [mkS_size]; omega))
      rw [mkS_list] at CS
      have hse : splE V[k] = 0 ∨ splE V[k] = 5 := by
        unfold splE
        split
        · exact .inl rfl
        · exact .inr rfl
      unfold dvV at hsn
      generalize splO V[k] = E at *
      generalize splE V[k] = se at *
      generalize mkS V[k] = ms at *
      generalize dvs (V.take k) = P at *
      have hPlen : P.length ≤ 10001000 := by
        refine Nat.le_trans hPl ?_
        exact Nat.mul_le_mul_right 10001 hPk
      have hi0 : (0 : Int) ≤ (k : Int) := by omega
      have hi1 : (k : Int) < (V.length : Int) := by omega
      have hs41 := hbel1.size
      have HSN := Lib.hid hsn
      have HFS : Hid (fnV (V.take (k + 1)) = (b && decide (se = 0))) := by show _ = _; rw [hfs, ← hfn.out]
      clear hc hvz hPl hPk hsn hfs hfn
      rcases hse with hse | hse
      all_goals
        cases b
        all_goals
          subst hse
          go_wp2_with fail
          refine (CS.out _).mono ?_
          rintro e w2 ⟨A2, c2, rfl, hS2, _, hfr, hb2⟩
          have HS2 := Lib.hid hS2
          have HOV : Hid (Off A2 _) := fun ad ha he => by
            have h1 := hfr ad ha
            have h2 := (World.ownsRow.lt hown.out ad.block he).2
            omega
          have HOU : Hid (Off A2 _) := fun ad ha he => by
            have h1 := hfr ad ha
            have h2 := (World.ownsRow.lt hun.out ad.block he).2
            omega
          have HO := Lib.hid (hown.out.below hb2)
          have HU := Lib.hid (hun.out.below hb2)
          have HB21 := Lib.hid (hbel1.trans (hb2.mono hs41))
          clear hb2 hS2 hfr
          go_wp2_with fail
          go_loopw [5, 6, 12] (fun v u i wi => ∃ j : Nat, j ≤ E.length ∧ i = .int .i64 (j : Int) ∧ Hid (OwnS wi w1.heap.size 9 v ((P ++ (E.take j).filterMap dvO).map (·.1))) ∧ Hid (OwnS wi w1.heap.size 9 u ((P ++ (E.take j).filterMap dvO).map (·.2))) ∧ Hid (Apt u v) ∧ Hid (SlS wi A2 E.length c2 E) ∧ Hid (Off A2 v) ∧ Hid (Off A2 u) ∧ Below w1.heap.size w1 wi) (fun _ _ i _ => E.length - (intOf i).toNat)
          case atStart => exact ⟨0, Nat.zero_le _, rfl, by show OwnS _ _ _ _ _; rw [List.take_zero, List.filterMap_nil, List.append_nil]; exact HO.out, by show OwnS _ _ _ _ _; rw [List.take_zero, List.filterMap_nil, List.append_nil]; exact HU.out, hap, HS2.out, HOV, HOU, HB21.out⟩
          case round =>
            clear hown hun hap HO HU HS2 HOV HOU
            obtain ⟨j, hj, rfl, hown, hun, hap, HS2, HOV, HOU, hb21⟩ := hrel
            by_cases hjl : j < E.length
            · obtain ⟨bd, rfl, hd⟩ := HS2.out.at_ (by omega)
              have hcell2 := hd j E[j] (List.getElem?_eq_getElem hjl)
              have hblk := HS2.out.lt (by omega)
              have hez := hEz _ (List.getElem_mem hjl)
              have hfm := fm_snoc E j hjl
              have CP := Lib.hid (fun W => r_param (mkS E[j]) W (by rw [mkS_size]; omega))
              have hdv : dvO E[j] = if parE (mkS E[j]) = 0 then some ((parN (mkS E[j])).data.toList, (parV (mkS E[j])).data.toList) else none := rfl
              rw [hdv] at hfm
              have hXl : (P ++ (E.take j).filterMap dvO).length ≤ 10011001 := by
                rw [List.length_append]
                have := List.length_filterMap_le dvO (E.take j)
                rw [List.length_take] at this
                omega
              generalize parE (mkS E[j]) = pe at *
              generalize parN (mkS E[j]) = pn at *
              generalize parV (mkS E[j]) = pv at *
              generalize parH (mkS E[j]) = ph at *
              generalize mkS E[j] = me at *
              generalize (E.take j).filterMap dvO = Q at *
              have hj0 : (0 : Int) ≤ (j : Int) := by omega
              have hj1 : (j : Int) < (E.length : Int) := by omega
              have hsB := hb21.size
              clear hd hez hdv
              by_cases hpe : pe = 0
              · rw [if_pos hpe] at hfm
                have HF1 : Hid ((P ++ (E.take (j + 1)).filterMap dvO).map (·.1) = (P ++ Q).map (·.1) ++ [pn.data.toList]) := by show _ = _; rw [hfm]; simp
                have HF2 : Hid ((P ++ (E.take (j + 1)).filterMap dvO).map (·.2) = (P ++ Q).map (·.2) ++ [pv.data.toList]) := by show _ = _; rw [hfm]; simp
                have hX1 : ((P ++ Q).map (·.1)).length ≤ 10011001 := by rw [List.length_map]; exact hXl
                have hX2 : ((P ++ Q).map (·.2)).length ≤ 10011001 := by rw [List.length_map]; exact hXl
                generalize (P ++ Q).map (·.1) = X1 at *
                generalize (P ++ Q).map (·.2) = X2 at *
                subst hpe
                clear hfm hXl
                go_wp2_with fail
                refine (CP.out _).mono ?_
                rintro e w3 ⟨rfl, hb3⟩
                have HO := Lib.hid (hown.out.below hb3)
                have HU := Lib.hid (hun.out.below hb3)
                have HBB := Lib.hid (hb21.trans (hb3.mono hsB))
                have HSE := Lib.hid (HS2.out.below hb3)
                have hs5 := HBB.out.size
                have hs6 := hb3.size
                clear hb3 hown hun
                go_wp2_with (at_builtin; first
                  | (refine wpList_append_sls2 rfl _ _ _ rfl w1.heap.size 9 Tryz.underlying49 (by kernel_rfl) _ rfl X1 (HO.out.alloc _) _ _ _ rfl [pn.data.toList] (SlS.textAt _ _ pn rfl) (by simp; omega) (by simp; omega) w1 (HBB.out.alloc hs5 _) _ X2 (HU.out.alloc _) hap.out ?_; intro v1 w4 ho1 hu1 ha1 hb4 hz4 hg4)
                  | (refine wpList_append_sls2 rfl _ _ _ rfl w1.heap.size 9 Tryz.underlying49 (by kernel_rfl) _ rfl X2 (hu1.out.alloc _) _ _ _ rfl [pv.data.toList] (SlS.textAt _ _ pv rfl) (by simp; omega) (Nat.le_trans hb4.size (by simp)) w1 (hb4.alloc hb4.size _) _ (X1 ++ [pn.data.toList]) (ho1.out.alloc _) ha1.out.symm ?_; intro v2 w5 ho2 hu2 ha2 hb5 hz5 hg5))
                go_roundw
                case rel =>
                  have hE4 := (HSE.out.alloc (.cells #[.string pn] 9)).grw HOV.out hg4.out
                  have hE5 := (hE4.alloc (.cells #[.string pv] 9)).grw HOU.out hg5.out
                  have hl4 : bd.block < (w3.alloc (.cells #[.string pn] 9)).heap.size := by simp; omega
                  have hl5 : bd.block < (w4.alloc (.cells #[.string pv] 9)).heap.size := by simp at hz4 ⊢; omega
                  exact ⟨j + 1, by omega, by go_num, by show OwnS _ _ _ _ _; rw [HF1.out]; exact hu2.out, by show OwnS _ _ _ _ _; rw [HF2.out]; exact ho2.out, ha2.out.symm, hE5, HOV.out.grw hg4.out hl4, HOU.out.grw hg5.out hl5, hb5⟩
                case measure => simp [intOf]; omega
              · rw [if_neg hpe, List.append_nil] at hfm
                have HF := Lib.hid hfm
                have hpe' : (pe == 0) = false := by simpa using hpe
                clear hfm hXl
                go_wp2_with fail
                refine (CP.out _).mono ?_
                rintro e w3 ⟨rfl, hb3⟩
                go_wp2_with fail
                go_roundw
                case rel => exact ⟨j + 1, by omega, by go_num, by show OwnS _ _ _ _ _; rw [HF.out]; exact hown.out.below hb3, by show OwnS _ _ _ _ _; rw [HF.out]; exact hun.out.below hb3, hap, HS2.out.below hb3, HOV, HOU, hb21.trans (hb3.mono hsB)⟩
                case measure => simp [intOf]; omega
            · have HT : Hid (dvs (V.take (k + 1)) = P ++ (E.take j).filterMap dvO) := by show _ = _; rw [HSN.out, List.take_of_length_le (by omega)]
              have hj1 : ¬ (j : Int) < (E.length : Int) := by omega
              go_wp2_with fail
              go_roundw
              case rel => exact ⟨k + 1, _, by omega, by go_num, rfl, by show OwnS _ _ _ _ _; rw [HT.out]; exact hown.out, by show OwnS _ _ _ _ _; rw [HT.out]; exact hun.out, hap, by show _ = _; rw [HFS.out]; rfl, hb21⟩
              case measure => simp [intOf]; omega
    · rw [List.take_of_length_le (show V.length ≤ k by omega)] at hown hun hfn
      obtain ⟨A1, c1, e1, hA1, _⟩ := hown.out.sls
      obtain ⟨A2, c2, e2, hA2, _⟩ := hun.out.sls
      rw [List.length_map] at e1 e2 hA1 hA2
      have hb := below_then HB.out hbel1
      have hi1 : ¬ (k : Int) < (V.length : Int) := by omega
      have HA1 := Lib.hid hA1
      have HA2 := Lib.hid hA2
      have HFN := Lib.hid hfn.out
      subst e1 e2
      clear hown hun hfn hA1 hA2 hap
      go_wp2_with fail
      go_ret3
      exact ⟨A1, c1, A2, c2, by rw [HFN.out]; rfl, HA1.out, HA2.out, hb⟩

end Go.Proofs.YtfmaaghmbnhikaaGreatDoor
end
