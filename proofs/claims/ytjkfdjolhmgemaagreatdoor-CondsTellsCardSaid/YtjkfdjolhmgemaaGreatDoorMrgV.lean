/-
  Texts that the laws of this seat lean on, one behind the other.
-/
import Derived.Test.YtjkfdjolhmgemaaGreatDoorMrgU
set_option linter.unusedSimpArgs false
set_option linter.unusedVariables false
/-
  Contract of the reference's Parse (layer 7).
-/
section
namespace Go.Proofs.YtjkfdjolhmgemaaGreatDoor
open Go.RowKit

theorem sum7_bd (y m d h i j : Int) : -1 ≤ sumN7 y m d h i j ∧ sumN7 y m d h i j ≤ 253402300799 := by
  have hv := dayV_bd y m d
  unfold sumN7
  split <;> omega
theorem timN_bd (s : ByteArray) (y a d k : Int) : -1 ≤ timN s y a d k ∧ timN s y a d k ≤ 253402300799 := by
  unfold timN
  split
  · split
    · omega
    · exact sum7_bd _ _ _ _ _ _
  · omega
/-- The place of the first comma, or the length. -/
def comL : List UInt8 → Nat
  | [] => 0
  | c :: r => if c = 44 then 0 else comL r + 1
def comN (s : ByteArray) : Nat := comL s.data.toList
theorem comL_le : ∀ l : List UInt8, comL l ≤ l.length
  | [] => Nat.le_refl _
  | c :: r => by
    have := comL_le r
    simp only [comL, List.length_cons]
    split <;> omega
def t1N (s : ByteArray) : Int := timN s (dgtN s 12 4) 8 (dgtN s 5 2) 17
def y2N (s : ByteArray) : Int := if 70 ≤ dgtN s ((comN s : Int) + 9) 2 then 1900 + dgtN s ((comN s : Int) + 9) 2 else 2000 + dgtN s ((comN s : Int) + 9) 2
def t2N (s : ByteArray) : Int := timN s (y2N s) ((comN s : Int) + 5) (dgtN s ((comN s : Int) + 2) 2) ((comN s : Int) + 12)
def d3N (s : ByteArray) : Int := if dgtN s 8 2 < 0 then dgtN s 9 1 else dgtN s 8 2
def t3N (s : ByteArray) : Int := timN s (dgtN s 20 4) 4 (d3N s) 11
def parT (s : ByteArray) : Int × Int :=
  if 0 ≤ t1N s ∧ fmtI (t1N s) = s.data.toList then (t1N s, 0)
  else if 0 ≤ t2N s ∧ oldI (t2N s) = s.data.toList then (t2N s, 0)
  else if 0 ≤ t3N s ∧ plnI (t3N s) = s.data.toList then (t3N s, 0)
  else (0, 24)
theorem str_list (l : List UInt8) (s : ByteArray) : ((mkS l).toList == s.toList) = (l == s.data.toList) := by rw [Lib.toList_data, Lib.toList_data, mkS_list]

set_option maxHeartbeats 8000000 in
set_option maxRecDepth 100000 in
theorem r_parse (s : ByteArray) (hs : s.size ≤ 1000000) (w : World) :
    Calls Tryz.prog 65 #[.string s] w fun e w' => e = .returned (.tuple #[.int .i64 (parT s).1, .int .i64 (parT s).2]) ∧ Below w.heap.size w w' := by
  obtain ⟨R1, hR1⟩ : ∃ R, R = (parT s).1 := ⟨_, rfl⟩
  obtain ⟨R2, hR2⟩ : ∃ R, R = (parT s).2 := ⟨_, rfl⟩
  rw [← hR1, ← hR2]
  have hcl : comN s ≤ s.size := by rw [Lib.size_eq]; exact comL_le _
  have HF1 := Lib.hid (fun h : 0 ≤ t1N s ∧ fmtI (t1N s) = s.data.toList => show R1 = t1N s ∧ R2 = 0 by rw [hR1, hR2]; unfold parT; rw [if_pos h]; exact ⟨rfl, rfl⟩)
  have HF2 := Lib.hid (fun (g : ¬ (0 ≤ t1N s ∧ fmtI (t1N s) = s.data.toList)) (h : 0 ≤ t2N s ∧ oldI (t2N s) = s.data.toList) => show R1 = t2N s ∧ R2 = 0 by rw [hR1, hR2]; unfold parT; rw [if_neg g, if_pos h]; exact ⟨rfl, rfl⟩)
  have HF3 := Lib.hid (fun (g : ¬ (0 ≤ t1N s ∧ fmtI (t1N s) = s.data.toList)) (k : ¬ (0 ≤ t2N s ∧ oldI (t2N s) = s.data.toList)) (h : 0 ≤ t3N s ∧ plnI (t3N s) = s.data.toList) => show R1 = t3N s ∧ R2 = 0 by rw [hR1, hR2]; unfold parT; rw [if_neg g, if_neg k, if_pos h]; exact ⟨rfl, rfl⟩)
  have HF4 := Lib.hid (fun (g : ¬ (0 ≤ t1N s ∧ fmtI (t1N s) = s.data.toList)) (k : ¬ (0 ≤ t2N s ∧ oldI (t2N s) = s.data.toList)) (h : ¬ (0 ≤ t3N s ∧ plnI (t3N s) = s.data.toList)) => show R1 = 0 ∧ R2 = 24 by rw [hR1, hR2]; unfold parT; rw [if_neg g, if_neg k, if_neg h]; exact ⟨rfl, rfl⟩)
  clear hR1 hR2
  have b1 := timN_bd s (dgtN s 12 4) 8 (dgtN s 5 2) 17
  have b2 := timN_bd s (y2N s) ((comN s : Int) + 5) (dgtN s ((comN s : Int) + 2) 2) ((comN s : Int) + 12)
  have b3 := timN_bd s (dgtN s 20 4) 4 (d3N s) 11
  have g1 := dgtN_bd s 12 4
  have g2 := dgtN_bd s 5 2
  have g3 := dgtN_bd s ((comN s : Int) + 9) 2
  have g4 := dgtN_bd s ((comN s : Int) + 2) 2
  have g5 := dgtN_bd s 8 2
  have g6 := dgtN_bd s 9 1
  have g7 := dgtN_bd s 20 4
  have gy : -1000000 ≤ y2N s ∧ y2N s ≤ 1000000 := by unfold y2N; split <;> omega
  have gd : -1000000 ≤ d3N s ∧ d3N s ≤ 1000000 := by unfold d3N; split <;> omega
  have c1 := fun W => r_time s (dgtN s 12 4) 8 (dgtN s 5 2) 17 (by omega) (by omega) (by omega) (by omega) (by omega) W
  have c2 := fun W => r_time s (y2N s) ((comN s : Int) + 5) (dgtN s ((comN s : Int) + 2) 2) ((comN s : Int) + 12) (by omega) gy (by omega) (by omega) (by omega) W
  have c3 := fun W => r_time s (dgtN s 20 4) 4 (d3N s) 11 (by omega) (by omega) (by omega) gd (by omega) W
  have f1 := fun W => r_format (t1N s) (by unfold t1N; omega) W
  have f2 := fun W => r_old (t2N s) (by unfold t2N; omega) W
  have f3 := fun W => r_plain7 (t3N s) (by unfold t3N; omega) W
  have e1 := fun W => r_digits7 s 12 4 (by omega) (by omega) (by omega) W
  have e2 := fun W => r_digits7 s 5 2 (by omega) (by omega) (by omega) W
  have e3 := fun W => r_digits7 s ((comN s : Int) + 9) 2 (by omega) (by omega) (by omega) W
  have e4 := fun W => r_digits7 s ((comN s : Int) + 2) 2 (by omega) (by omega) (by omega) W
  have e5 := fun W => r_digits7 s 8 2 (by omega) (by omega) (by omega) W
  have e6 := fun W => r_digits7 s 9 1 (by omega) (by omega) (by omega) W
  have e7 := fun W => r_digits7 s 20 4 (by omega) (by omega) (by omega) W
  have hy2 : y2N s = if 70 ≤ dgtN s ((comN s : Int) + 9) 2 then 1900 + dgtN s ((comN s : Int) + 9) 2 else 2000 + dgtN s ((comN s : Int) + 9) 2 := rfl
  have hd3 : d3N s = if dgtN s 8 2 < 0 then dgtN s 9 1 else dgtN s 8 2 := rfl
  have q1 := str_list (fmtI (t1N s)) s
  have q2 := str_list (oldI (t2N s)) s
  have q3 := str_list (plnI (t3N s)) s
  change ∀ W, Calls _ _ _ W (fun e w' => e = .returned (.int .i64 (t1N s)) ∧ _) at c1
  change ∀ W, Calls _ _ _ W (fun e w' => e = .returned (.int .i64 (t2N s)) ∧ _) at c2
  change ∀ W, Calls _ _ _ W (fun e w' => e = .returned (.int .i64 (t3N s)) ∧ _) at c3
  change _ ∧ t1N s ≤ _ at b1
  change _ ∧ t2N s ≤ _ at b2
  change _ ∧ t3N s ≤ _ at b3
  have HC : Hid (comN s = comL s.data.toList) := rfl
  generalize t1N s = T1 at *
  generalize t2N s = T2 at *
  generalize t3N s = T3 at *
  generalize y2N s = Y2 at *
  generalize d3N s = D3 at *
  generalize comN s = C at *
  generalize dgtN s 12 4 = N1 at *
  generalize dgtN s 5 2 = N2 at *
  generalize dgtN s ((C : Int) + 9) 2 = N3 at *
  generalize dgtN s ((C : Int) + 2) 2 = N4 at *
  generalize dgtN s 8 2 = N5 at *
  generalize dgtN s 9 1 = N6 at *
  generalize dgtN s 20 4 = N7 at *
  generalize hFM : fmtI T1 = FM at *
  generalize hOL : oldI T2 = OL at *
  generalize hPL : plnI T3 = PL at *
  have C1 := Lib.hid c1
  have C2 := Lib.hid c2
  have C3 := Lib.hid c3
  have F1 := Lib.hid f1
  have F2 := Lib.hid f2
  have F3 := Lib.hid f3
  have E1 := Lib.hid e1
  have E2 := Lib.hid e2
  have E3 := Lib.hid e3
  have E4 := Lib.hid e4
  have E5 := Lib.hid e5
  have E6 := Lib.hid e6
  have E7 := Lib.hid e7
  have HY2 := Lib.hid hy2
  have HD3 := Lib.hid hd3
  have Q1 := Lib.hid q1
  have Q2 := Lib.hid q2
  have Q3 := Lib.hid q3
  clear c1 c2 c3 f1 f2 f3 e1 e2 e3 e4 e5 e6 e7 hy2 hd3 q1 q2 q3 hFM hOL hPL gy gd
  obtain ⟨xf, hxf⟩ : ∃ x, x = mkS FM := ⟨_, rfl⟩
  obtain ⟨xo, hxo⟩ : ∃ x, x = mkS OL := ⟨_, rfl⟩
  obtain ⟨xp, hxp⟩ : ∃ x, x = mkS PL := ⟨_, rfl⟩
  rw [← hxf] at F1 Q1
  rw [← hxo] at F2 Q2
  rw [← hxp] at F3 Q3
  clear hxf hxo hxp
  go_enter Tryz.func65, Tryz.ntmps65
  have hb := Below.refl w.heap.size w
  go_wp2_with fail
  refine (E1.out _).mono ?_
  rintro e w' ⟨rfl, rfl⟩
  go_wp2_with fail
  refine (E2.out _).mono ?_
  rintro e w' ⟨rfl, rfl⟩
  go_wp2_with fail
  refine (C1.out _).mono ?_
  rintro e v1 ⟨rfl, hb1⟩
  have hb := below_then hb hb1
  clear hb1
  by_cases kT1 : T1 < 0
  · have G1 : Hid (¬ (0 ≤ T1 ∧ FM = s.data.toList)) := fun h => absurd h.1 (by omega)
    go_wp2_with fail
    go_loopw [5] (fun i wr => ∃ k : Nat, k ≤ C ∧ i = .int .i64 k ∧ Hid (C = k + comL (s.data.toList.drop k)) ∧ Below w.heap.size w wr) (fun i _ => C - (intOf i).toNat)
    case atStart => exact ⟨0, Nat.zero_le _, rfl, by show _ = _; rw [HC.out]; simp, hb⟩
    case round =>
      clear hb
      obtain ⟨k, hk, rfl, hf, hb⟩ := hrel
      by_cases hlt : k < C
      · have hks : k < s.size := by omega
        have hdr := drop_at s k hks
        have hne : s[k] ≠ 44 := fun e => by have := hf.out; rw [hdr, e] at this; simp [comL] at this; omega
        have hneb : ((s[k].toNat : Int) == 44) = false := by
          rw [beq_eq_false_iff_ne]
          intro h
          refine hne ?_
          rw [← UInt8.toNat_inj]
          show s[k].toNat = 44
          omega
        have hnx : Hid (C = k + 1 + comL (s.data.toList.drop (k + 1))) := by
          have := hf.out
          rw [hdr] at this
          simp only [comL, hne, if_false] at this
          show _ = _
          omega
        clear hf hdr hne
        go_wp2_with fail
        go_roundw
        case rel => exact ⟨k + 1, by omega, by go_num, hnx, hb⟩
        case measure => simp [intOf]; omega
      · have hkc : k = C := by omega
        subst hkc
        have hcm : (k < s.size ∧ ∃ h : k < s.size, ((s[k].toNat : Int) == 44) = true) ∨ ¬ k < s.size := by
          by_cases h : k < s.size
          · refine .inl ⟨h, h, ?_⟩
            have := hf.out
            rw [drop_at s k h] at this
            simp only [comL] at this
            split at this
            · rename_i hc
              rw [hc]; rfl
            · omega
          · exact .inr h
        clear hf hk hlt
        rcases hcm with ⟨hk1, hk2, hk3⟩ | hk1
        all_goals
          go_wp2_with fail
          refine (E3.out _).mono ?_
          rintro e w' ⟨rfl, rfl⟩
          try clear hk3
          by_cases h70 : 70 ≤ N3
          · have hyy := HY2.out
            rw [if_pos h70] at hyy
            subst hyy
            go_wp2_with fail
            refine (E4.out _).mono ?_
            rintro e w' ⟨rfl, rfl⟩
            go_wp2_with fail
            refine (C2.out _).mono ?_
            rintro e v2 ⟨rfl, hb2⟩
            have hb := below_then hb hb2
            clear hb2
            by_cases kT2 : T2 < 0
            · have G2 : Hid (¬ (0 ≤ T2 ∧ OL = s.data.toList)) := fun h => absurd h.1 (by omega)
              go_wp2_with fail
              refine (E5.out _).mono ?_
              rintro e w' ⟨rfl, rfl⟩
              by_cases h5 : N5 < 0
              · have hdd := HD3.out
                rw [if_pos h5] at hdd
                subst hdd
                go_wp2_with fail
                refine (E6.out _).mono ?_
                rintro e w' ⟨rfl, rfl⟩
                go_wp2_with fail
                refine (E7.out _).mono ?_
                rintro e w' ⟨rfl, rfl⟩
                go_wp2_with fail
                refine (C3.out _).mono ?_
                rintro e v3 ⟨rfl, hb3⟩
                have hb := below_then hb hb3
                clear hb3
                by_cases kT3 : T3 < 0
                · have G3 : Hid (¬ (0 ≤ T3 ∧ PL = s.data.toList)) := fun h => absurd h.1 (by omega)
                  have HR := Lib.hid (HF4.out G1.out G2.out G3.out)
                  go_wp2_with fail
                  go_ret2
                  exact ⟨by rw [HR.out.1, HR.out.2]; rfl, hb⟩
                · have jT3 : 0 ≤ T3 := by omega
                  by_cases mT3 : PL = s.data.toList
                  · have HR := Lib.hid (HF3.out G1.out G2.out ⟨jT3, mT3⟩)
                    have hq : (xp.toList == s.toList) = true := by rw [Q3.out, mT3]; simp
                    clear mT3
                    go_wp2_with fail
                    refine (F3.out _).mono ?_
                    rintro e v4 ⟨rfl, hb4⟩
                    have hb := below_then hb hb4
                    clear hb4
                    go_wp2_with fail
                    go_ret2
                    exact ⟨by rw [HR.out.1, HR.out.2]; rfl, hb⟩
                  · have G3 : Hid (¬ (0 ≤ T3 ∧ PL = s.data.toList)) := fun h => mT3 h.2
                    have hqT3 : (xp.toList == s.toList) = false := by rw [Q3.out]; simpa using mT3
                    clear mT3
                    go_wp2_with fail
                    refine (F3.out _).mono ?_
                    rintro e v5 ⟨rfl, hb5⟩
                    have hb := below_then hb hb5
                    clear hb5
                    have HR := Lib.hid (HF4.out G1.out G2.out G3.out)
                    go_wp2_with fail
                    go_ret2
                    exact ⟨by rw [HR.out.1, HR.out.2]; rfl, hb⟩
              · have hdd := HD3.out
                rw [if_neg h5] at hdd
                subst hdd
                go_wp2_with fail
                refine (E7.out _).mono ?_
                rintro e w' ⟨rfl, rfl⟩
                go_wp2_with fail
                refine (C3.out _).mono ?_
                rintro e v6 ⟨rfl, hb6⟩
                have hb := below_then hb hb6
                clear hb6
                by_cases kT3 : T3 < 0
                · have G3 : Hid (¬ (0 ≤ T3 ∧ PL = s.data.toList)) := fun h => absurd h.1 (by omega)
                  have HR := Lib.hid (HF4.out G1.out G2.out G3.out)
                  go_wp2_with fail
                  go_ret2
                  exact ⟨by rw [HR.out.1, HR.out.2]; rfl, hb⟩
                · have jT3 : 0 ≤ T3 := by omega
                  by_cases mT3 : PL = s.data.toList
                  · have HR := Lib.hid (HF3.out G1.out G2.out ⟨jT3, mT3⟩)
                    have hq : (xp.toList == s.toList) = true := by rw [Q3.out, mT3]; simp
                    clear mT3
                    go_wp2_with fail
                    refine (F3.out _).mono ?_
                    rintro e v7 ⟨rfl, hb7⟩
                    have hb := below_then hb hb7
                    clear hb7
                    go_wp2_with fail
                    go_ret2
                    exact ⟨by rw [HR.out.1, HR.out.2]; rfl, hb⟩
                  · have G3 : Hid (¬ (0 ≤ T3 ∧ PL = s.data.toList)) := fun h => mT3 h.2
                    have hqT3 : (xp.toList == s.toList) = false := by rw [Q3.out]; simpa using mT3
                    clear mT3
                    go_wp2_with fail
                    refine (F3.out _).mono ?_
                    rintro e v8 ⟨rfl, hb8⟩
                    have hb := below_then hb hb8
                    clear hb8
                    have HR := Lib.hid (HF4.out G1.out G2.out G3.out)
                    go_wp2_with fail
                    go_ret2
                    exact ⟨by rw [HR.out.1, HR.out.2]; rfl, hb⟩
            · have jT2 : 0 ≤ T2 := by omega
              by_cases mT2 : OL = s.data.toList
              · have HR := Lib.hid (HF2.out G1.out ⟨jT2, mT2⟩)
                have hq : (xo.toList == s.toList) = true := by rw [Q2.out, mT2]; simp
                clear mT2
                go_wp2_with fail
                refine (F2.out _).mono ?_
                rintro e v9 ⟨rfl, hb9⟩
                have hb := below_then hb hb9
                clear hb9
                go_wp2_with fail
                go_ret2
                exact ⟨by rw [HR.out.1, HR.out.2]; rfl, hb⟩
              · have G2 : Hid (¬ (0 ≤ T2 ∧ OL = s.data.toList)) := fun h => mT2 h.2
                have hqT2 : (xo.toList == s.toList) = false := by rw [Q2.out]; simpa using mT2
                clear mT2
                go_wp2_with fail
                refine (F2.out _).mono ?_
                rintro e v10 ⟨rfl, hb10⟩
                have hb := below_then hb hb10
                clear hb10
                go_wp2_with fail
                refine (E5.out _).mono ?_
                rintro e w' ⟨rfl, rfl⟩
                by_cases h5 : N5 < 0
                · have hdd := HD3.out
                  rw [if_pos h5] at hdd
                  subst hdd
                  go_wp2_with fail
                  refine (E6.out _).mono ?_
                  rintro e w' ⟨rfl, rfl⟩
                  go_wp2_with fail
                  refine (E7.out _).mono ?_
                  rintro e w' ⟨rfl, rfl⟩
                  go_wp2_with fail
                  refine (C3.out _).mono ?_
                  rintro e v11 ⟨rfl, hb11⟩
                  have hb := below_then hb hb11
                  clear hb11
                  by_cases kT3 : T3 < 0
                  · have G3 : Hid (¬ (0 ≤ T3 ∧ PL = s.data.toList)) := fun h => absurd h.1 (by omega)
                    have HR := Lib.hid (HF4.out G1.out G2.out G3.out)
                    go_wp2_with fail
                    go_ret2
                    exact ⟨by rw [HR.out.1, HR.out.2]; rfl, hb⟩
                  · have jT3 : 0 ≤ T3 := by omega
                    by_cases mT3 : PL = s.data.toList
                    · have HR := Lib.hid (HF3.out G1.out G2.out ⟨jT3, mT3⟩)
                      have hq : (xp.toList == s.toList) = true := by rw [Q3.out, mT3]; simp
                      clear mT3
                      go_wp2_with fail
                      refine (F3.out _).mono ?_
                      rintro e v12 ⟨rfl, hb12⟩
                      have hb := below_then hb hb12
                      clear hb12
                      go_wp2_with fail
                      go_ret2
                      exact ⟨by rw [HR.out.1, HR.out.2]; rfl, hb⟩
                    · have G3 : Hid (¬ (0 ≤ T3 ∧ PL = s.data.toList)) := fun h => mT3 h.2
                      have hqT3 : (xp.toList == s.toList) = false := by rw [Q3.out]; simpa using mT3
                      clear mT3
                      go_wp2_with fail
                      refine (F3.out _).mono ?_
                      rintro e v13 ⟨rfl, hb13⟩
                      have hb := below_then hb hb13
                      clear hb13
                      have HR := Lib.hid (HF4.out G1.out G2.out G3.out)
                      go_wp2_with fail
                      go_ret2
                      exact ⟨by rw [HR.out.1, HR.out.2]; rfl, hb⟩
                · have hdd := HD3.out
                  rw [if_neg h5] at hdd
                  subst hdd
                  go_wp2_with fail
                  refine (E7.out _).mono ?_
                  rintro e w' ⟨rfl, rfl⟩
                  go_wp2_with fail
                  refine (C3.out _).mono ?_
                  rintro e v14 ⟨rfl, hb14⟩
                  have hb := below_then hb hb14
                  clear hb14
                  by_cases kT3 : T3 < 0
                  · have G3 : Hid (¬ (0 ≤ T3 ∧ PL = s.data.toList)) := fun h => absurd h.1 (by omega)
                    have HR := Lib.hid (HF4.out G1.out G2.out G3.out)
                    go_wp2_with fail
                    go_ret2
                    exact ⟨by rw [HR.out.1, HR.out.2]; rfl, hb⟩
                  · have jT3 : 0 ≤ T3 := by omega
                    by_cases mT3 : PL = s.data.toList
                    · have HR := Lib.hid (HF3.out G1.out G2.out ⟨jT3, mT3⟩)
                      have hq : (xp.toList == s.toList) = true := by rw [Q3.out, mT3]; simp
                      clear mT3
                      go_wp2_with fail
                      refine (F3.out _).mono ?_
                      rintro e v15 ⟨rfl, hb15⟩
                      have hb := below_then hb hb15
                      clear hb15
                      go_wp2_with fail
                      go_ret2
                      exact ⟨by rw [HR.out.1, HR.out.2]; rfl, hb⟩
                    · have G3 : Hid (¬ (0 ≤ T3 ∧ PL = s.data.toList)) := fun h => mT3 h.2
                      have hqT3 : (xp.toList == s.toList) = false := by rw [Q3.out]; simpa using mT3
                      clear mT3
                      go_wp2_with fail
                      refine (F3.out _).mono ?_
                      rintro e v16 ⟨rfl, hb16⟩
                      have hb := below_then hb hb16
                      clear hb16
                      have HR := Lib.hid (HF4.out G1.out G2.out G3.out)
                      go_wp2_with fail
                      go_ret2
                      exact ⟨by rw [HR.out.1, HR.out.2]; rfl, hb⟩
          · have hyy := HY2.out
            rw [if_neg h70] at hyy
            subst hyy
            go_wp2_with fail
            refine (E4.out _).mono ?_
            rintro e w' ⟨rfl, rfl⟩
            go_wp2_with fail
            refine (C2.out _).mono ?_
            rintro e v17 ⟨rfl, hb17⟩
            have hb := below_then hb hb17
            clear hb17
            by_cases kT2 : T2 < 0
            · have G2 : Hid (¬ (0 ≤ T2 ∧ OL = s.data.toList)) := fun h => absurd h.1 (by omega)
              go_wp2_with fail
              refine (E5.out _).mono ?_
              rintro e w' ⟨rfl, rfl⟩
              by_cases h5 : N5 < 0
              · have hdd := HD3.out
                rw [if_pos h5] at hdd
                subst hdd
                go_wp2_with fail
                refine (E6.out _).mono ?_
                rintro e w' ⟨rfl, rfl⟩
                go_wp2_with fail
                refine (E7.out _).mono ?_
                rintro e w' ⟨rfl, rfl⟩
                go_wp2_with fail
                refine (C3.out _).mono ?_
                rintro e v18 ⟨rfl, hb18⟩
                have hb := below_then hb hb18
                clear hb18
                by_cases kT3 : T3 < 0
                · have G3 : Hid (¬ (0 ≤ T3 ∧ PL = s.data.toList)) := fun h => absurd h.1 (by omega)
                  have HR := Lib.hid (HF4.out G1.out G2.out G3.out)
                  go_wp2_with fail
                  go_ret2
                  exact ⟨by rw [HR.out.1, HR.out.2]; rfl, hb⟩
                · have jT3 : 0 ≤ T3 := by omega
                  by_cases mT3 : PL = s.data.toList
                  · have HR := Lib.hid (HF3.out G1.out G2.out ⟨jT3, mT3⟩)
                    have hq : (xp.toList == s.toList) = true := by rw [Q3.out, mT3]; simp
                    clear mT3
                    go_wp2_with fail
                    refine (F3.out _).mono ?_
                    rintro e v19 ⟨rfl, hb19⟩
                    have hb := below_then hb hb19
                    clear hb19
                    go_wp2_with fail
                    go_ret2
                    exact ⟨by rw [HR.out.1, HR.out.2]; rfl, hb⟩
                  · have G3 : Hid (¬ (0 ≤ T3 ∧ PL = s.data.toList)) := fun h => mT3 h.2
                    have hqT3 : (xp.toList == s.toList) = false := by rw [Q3.out]; simpa using mT3
                    clear mT3
                    go_wp2_with fail
                    refine (F3.out _).mono ?_
                    rintro e v20 ⟨rfl, hb20⟩
                    have hb := below_then hb hb20
                    clear hb20
                    have HR := Lib.hid (HF4.out G1.out G2.out G3.out)
                    go_wp2_with fail
                    go_ret2
                    exact ⟨by rw [HR.out.1, HR.out.2]; rfl, hb⟩
              · have hdd := HD3.out
                rw [if_neg h5] at hdd
                subst hdd
                go_wp2_with fail
                refine (E7.out _).mono ?_
                rintro e w' ⟨rfl, rfl⟩
                go_wp2_with fail
                refine (C3.out _).mono ?_
                rintro e v21 ⟨rfl, hb21⟩
                have hb := below_then hb hb21
                clear hb21
                by_cases kT3 : T3 < 0
                · have G3 : Hid (¬ (0 ≤ T3 ∧ PL = s.data.toList)) := fun h => absurd h.1 (by omega)
                  have HR := Lib.hid (HF4.out G1.out G2.out G3.out)
                  go_wp2_with fail
                  go_ret2
                  exact ⟨by rw [HR.out.1, HR.out.2]; rfl, hb⟩
                · have jT3 : 0 ≤ T3 := by omega
                  by_cases mT3 : PL = s.data.toList
                  · have HR := Lib.hid (HF3.out G1.out G2.out ⟨jT3, mT3⟩)
                    have hq : (xp.toList == s.toList) = true := by rw [Q3.out, mT3]; simp
                    clear mT3
                    go_wp2_with fail
                    refine (F3.out _).mono ?_
                    rintro e v22 ⟨rfl, hb22⟩
                    have hb := below_then hb hb22
                    clear hb22
                    go_wp2_with fail
                    go_ret2
                    exact ⟨by rw [HR.out.1, HR.out.2]; rfl, hb⟩
                  · have G3 : Hid (¬ (0 ≤ T3 ∧ PL = s.data.toList)) := fun h => mT3 h.2
                    have hqT3 : (xp.toList == s.toList) = false := by rw [Q3.out]; simpa using mT3
                    clear mT3
                    go_wp2_with fail
                    refine (F3.out _).mono ?_
                    rintro e v23 ⟨rfl, hb23⟩
                    have hb := below_then hb hb23
                    clear hb23
                    have HR := Lib.hid (HF4.out G1.out G2.out G3.out)
                    go_wp2_with fail
                    go_ret2
                    exact ⟨by rw [HR.out.1, HR.out.2]; rfl, hb⟩
            · have jT2 : 0 ≤ T2 := by omega
              by_cases mT2 : OL = s.data.toList
              · have HR := Lib.hid (HF2.out G1.out ⟨jT2, mT2⟩)
                have hq : (xo.toList == s.toList) = true := by rw [Q2.out, mT2]; simp
                clear mT2
                go_wp2_with fail
                refine (F2.out _).mono ?_
                rintro e v24 ⟨rfl, hb24⟩
                have hb := below_then hb hb24
                clear hb24
                go_wp2_with fail
                go_ret2
                exact ⟨by rw [HR.out.1, HR.out.2]; rfl, hb⟩
              · have G2 : Hid (¬ (0 ≤ T2 ∧ OL = s.data.toList)) := fun h => mT2 h.2
                have hqT2 : (xo.toList == s.toList) = false := by rw [Q2.out]; simpa using mT2
                clear mT2
                go_wp2_with fail
                refine (F2.out _).mono ?_
                rintro e v25 ⟨rfl, hb25⟩
                have hb := below_then hb hb25
                clear hb25
                go_wp2_with fail
                refine (E5.out _).mono ?_
                rintro e w' ⟨rfl, rfl⟩
                by_cases h5 : N5 < 0
                · have hdd := HD3.out
                  rw [if_pos h5] at hdd
                  subst hdd
                  go_wp2_with fail
                  refine (E6.out _).mono ?_
                  rintro e w' ⟨rfl, rfl⟩
                  go_wp2_with fail
                  refine (E7.out _).mono ?_
                  rintro e w' ⟨rfl, rfl⟩
                  go_wp2_with fail
                  refine (C3.out _).mono ?_
                  rintro e v26 ⟨rfl, hb26⟩
                  have hb := below_then hb hb26
                  clear hb26
                  by_cases kT3 : T3 < 0
                  · have G3 : Hid (¬ (0 ≤ T3 ∧ PL = s.data.toList)) := fun h => absurd h.1 (by omega)
                    have HR := Lib.hid (HF4.out G1.out G2.out G3.out)
                    go_wp2_with fail
                    go_ret2
                    exact ⟨by rw [HR.out.1, HR.out.2]; rfl, hb⟩
                  · have jT3 : 0 ≤ T3 := by omega
                    by_cases mT3 : PL = s.data.toList
                    · have HR := Lib.hid (HF3.out G1.out G2.out ⟨jT3, mT3⟩)
                      have hq : (xp.toList == s.toList) = true := by rw [Q3.out, mT3]; simp
                      clear mT3
                      go_wp2_with fail
                      refine (F3.out _).mono ?_
                      rintro e v27 ⟨rfl, hb27⟩
                      have hb := below_then hb hb27
                      clear hb27
                      go_wp2_with fail
                      go_ret2
                      exact ⟨by rw [HR.out.1, HR.out.2]; rfl, hb⟩
                    · have G3 : Hid (¬ (0 ≤ T3 ∧ PL = s.data.toList)) := fun h => mT3 h.2
                      have hqT3 : (xp.toList == s.toList) = false := by rw [Q3.out]; simpa using mT3
                      clear mT3
                      go_wp2_with fail
                      refine (F3.out _).mono ?_
                      rintro e v28 ⟨rfl, hb28⟩
                      have hb := below_then hb hb28
                      clear hb28
                      have HR := Lib.hid (HF4.out G1.out G2.out G3.out)
                      go_wp2_with fail
                      go_ret2
                      exact ⟨by rw [HR.out.1, HR.out.2]; rfl, hb⟩
                · have hdd := HD3.out
                  rw [if_neg h5] at hdd
                  subst hdd
                  go_wp2_with fail
                  refine (E7.out _).mono ?_
                  rintro e w' ⟨rfl, rfl⟩
                  go_wp2_with fail
                  refine (C3.out _).mono ?_
                  rintro e v29 ⟨rfl, hb29⟩
                  have hb := below_then hb hb29
                  clear hb29
                  by_cases kT3 : T3 < 0
                  · have G3 : Hid (¬ (0 ≤ T3 ∧ PL = s.data.toList)) := fun h => absurd h.1 (by omega)
                    have HR := Lib.hid (HF4.out G1.out G2.out G3.out)
                    go_wp2_with fail
                    go_ret2
                    exact ⟨by rw [HR.out.1, HR.out.2]; rfl, hb⟩
                  · have jT3 : 0 ≤ T3 := by omega
                    by_cases mT3 : PL = s.data.toList
                    · have HR := Lib.hid (HF3.out G1.out G2.out ⟨jT3, mT3⟩)
                      have hq : (xp.toList == s.toList) = true := by rw [Q3.out, mT3]; simp
                      clear mT3
                      go_wp2_with fail
                      refine (F3.out _).mono ?_
                      rintro e v30 ⟨rfl, hb30⟩
                      have hb := below_then hb hb30
                      clear hb30
                      go_wp2_with fail
                      go_ret2
                      exact ⟨by rw [HR.out.1, HR.out.2]; rfl, hb⟩
                    · have G3 : Hid (¬ (0 ≤ T3 ∧ PL = s.data.toList)) := fun h => mT3 h.2
                      have hqT3 : (xp.toList == s.toList) = false := by rw [Q3.out]; simpa using mT3
                      clear mT3
                      go_wp2_with fail
                      refine (F3.out _).mono ?_
                      rintro e v31 ⟨rfl, hb31⟩
                      have hb := below_then hb hb31
                      clear hb31
                      have HR := Lib.hid (HF4.out G1.out G2.out G3.out)
                      go_wp2_with fail
                      go_ret2
                      exact ⟨by rw [HR.out.1, HR.out.2]; rfl, hb⟩
  · have jT1 : 0 ≤ T1 := by omega
    by_cases mT1 : FM = s.data.toList
    · have HR := Lib.hid (HF1.out ⟨jT1, mT1⟩)
      have hq : (xf.toList == s.toList) = true := by rw [Q1.out, mT1]; simp
      clear mT1
      go_wp2_with fail
      refine (F1.out _).mono ?_
      rintro e v32 ⟨rfl, hb32⟩
      have hb := below_then hb hb32
      clear hb32
      go_wp2_with fail
      go_ret2
      exact ⟨by rw [HR.out.1, HR.out.2]; rfl, hb⟩
    · have G1 : Hid (¬ (0 ≤ T1 ∧ FM = s.data.toList)) := fun h => mT1 h.2
      have hqT1 : (xf.toList == s.toList) = false := by rw [Q1.out]; simpa using mT1
      clear mT1
      go_wp2_with fail
      refine (F1.out _).mono ?_
      rintro e v33 ⟨rfl, hb33⟩
      have hb := below_then hb hb33
      clear hb33
      go_wp2_with fail
      go_loopw [5] (fun i wr => ∃ k : Nat, k ≤ C ∧ i = .int .i64 k ∧ Hid (C = k + comL (s.data.toList.drop k)) ∧ Below w.heap.size w wr) (fun i _ => C - (intOf i).toNat)
      case atStart => exact ⟨0, Nat.zero_le _, rfl, by show _ = _; rw [HC.out]; simp, hb⟩
      case round =>
        clear hb
        obtain ⟨k, hk, rfl, hf, hb⟩ := hrel
        by_cases hlt : k < C
        · have hks : k < s.size := by omega
          have hdr := drop_at s k hks
          have hne : s[k] ≠ 44 := fun e => by have := hf.out; rw [hdr, e] at this; simp [comL] at this; omega
          have hneb : ((s[k].toNat : Int) == 44) = false := by
            rw [beq_eq_false_iff_ne]
            intro h
            refine hne ?_
            rw [← UInt8.toNat_inj]
            show s[k].toNat = 44
            omega
          have hnx : Hid (C = k + 1 + comL (s.data.toList.drop (k + 1))) := by
            have := hf.out
            rw [hdr] at this
            simp only [comL, hne, if_false] at this
            show _ = _
            omega
          clear hf hdr hne
          go_wp2_with fail
          go_roundw
          case rel => exact ⟨k + 1, by omega, by go_num, hnx, hb⟩
          case measure => simp [intOf]; omega
        · have hkc : k = C := by omega
          subst hkc
          have hcm : (k < s.size ∧ ∃ h : k < s.size, ((s[k].toNat : Int) == 44) = true) ∨ ¬ k < s.size := by
            by_cases h : k < s.size
            · refine .inl ⟨h, h, ?_⟩
              have := hf.out
              rw [drop_at s k h] at this
              simp only [comL] at this
              split at this
              · rename_i hc
                rw [hc]; rfl
              · omega
            · exact .inr h
          clear hf hk hlt
          rcases hcm with ⟨hk1, hk2, hk3⟩ | hk1
          all_goals
            go_wp2_with fail
            refine (E3.out _).mono ?_
            rintro e w' ⟨rfl, rfl⟩
            try clear hk3
            by_cases h70 : 70 ≤ N3
            · have hyy := HY2.out
              rw [if_pos h70] at hyy
              subst hyy
              go_wp2_with fail
              refine (E4.out _).mono ?_
              rintro e w' ⟨rfl, rfl⟩
              go_wp2_with fail
              refine (C2.out _).mono ?_
              rintro e v34 ⟨rfl, hb34⟩
              have hb := below_then hb hb34
              clear hb34
              by_cases kT2 : T2 < 0
              · have G2 : Hid (¬ (0 ≤ T2 ∧ OL = s.data.toList)) := fun h => absurd h.1 (by omega)
                go_wp2_with fail
                refine (E5.out _).mono ?_
                rintro e w' ⟨rfl, rfl⟩
                by_cases h5 : N5 < 0
                · have hdd := HD3.out
                  rw [if_pos h5] at hdd
                  subst hdd
                  go_wp2_with fail
                  refine (E6.out _).mono ?_
                  rintro e w' ⟨rfl, rfl⟩
                  go_wp2_with fail
                  refine (E7.out _).mono ?_
                  rintro e w' ⟨rfl, rfl⟩
                  go_wp2_with fail
                  refine (C3.out _).mono ?_
                  rintro e v35 ⟨rfl, hb35⟩
                  have hb := below_then hb hb35
                  clear hb35
                  by_cases kT3 : T3 < 0
                  · have G3 : Hid (¬ (0 ≤ T3 ∧ PL = s.data.toList)) := fun h => absurd h.1 (by omega)
                    have HR := Lib.hid (HF4.out G1.out G2.out G3.out)
                    go_wp2_with fail
                    go_ret2
                    exact ⟨by rw [HR.out.1, HR.out.2]; rfl, hb⟩
                  · have jT3 : 0 ≤ T3 := by omega
                    by_cases mT3 : PL = s.data.toList
                    · have HR := Lib.hid (HF3.out G1.out G2.out ⟨jT3, mT3⟩)
                      have hq : (xp.toList == s.toList) = true := by rw [Q3.out, mT3]; simp
                      clear mT3
                      go_wp2_with fail
                      refine (F3.out _).mono ?_
                      rintro e v36 ⟨rfl, hb36⟩
                      have hb := below_then hb hb36
                      clear hb36
                      go_wp2_with fail
                      go_ret2
                      exact ⟨by rw [HR.out.1, HR.out.2]; rfl, hb⟩
                    · have G3 : Hid (¬ (0 ≤ T3 ∧ PL = s.data.toList)) := fun h => mT3 h.2
                      have hqT3 : (xp.toList == s.toList) = false := by rw [Q3.out]; simpa using mT3
                      clear mT3
                      go_wp2_with fail
                      refine (F3.out _).mono ?_
                      rintro e v37 ⟨rfl, hb37⟩
                      have hb := below_then hb hb37
                      clear hb37
                      have HR := Lib.hid (HF4.out G1.out G2.out G3.out)
                      go_wp2_with fail
                      go_ret2
                      exact ⟨by rw [HR.out.1, HR.out.2]; rfl, hb⟩
                · have hdd := HD3.out
                  rw [if_neg h5] at hdd
                  subst hdd
                  go_wp2_with fail
                  refine (E7.out _).mono ?_
                  rintro e w' ⟨rfl, rfl⟩
                  go_wp2_with fail
                  refine (C3.out _).mono ?_
                  rintro e v38 ⟨rfl, hb38⟩
                  have hb := below_then hb hb38
                  clear hb38
                  by_cases kT3 : T3 < 0
                  · have G3 : Hid (¬ (0 ≤ T3 ∧ PL = s.data.toList)) := fun h => absurd h.1 (by omega)
                    have HR := Lib.hid (HF4.out G1.out G2.out G3.out)
                    go_wp2_with fail
                    go_ret2
                    exact ⟨by rw [HR.out.1, HR.out.2]; rfl, hb⟩
                  · have jT3 : 0 ≤ T3 := by omega
                    by_cases mT3 : PL = s.data.toList
                    · have HR := Lib.hid (HF3.out G1.out G2.out ⟨jT3, mT3⟩)
                      have hq : (xp.toList == s.toList) = true := by rw [Q3.out, mT3]; simp
                      clear mT3
                      go_wp2_with fail
                      refine (F3.out _).mono ?_
                      rintro e v39 ⟨rfl, hb39⟩
                      have hb := below_then hb hb39
                      clear hb39
                      go_wp2_with fail
                      go_ret2
                      exact ⟨by rw [HR.out.1, HR.out.2]; rfl, hb⟩
                    · have G3 : Hid (¬ (0 ≤ T3 ∧ PL = s.data.toList)) := fun h => mT3 h.2
                      have hqT3 : (xp.toList == s.toList) = false := by rw [Q3.out]; simpa using mT3
                      clear mT3
                      go_wp2_with fail
                      refine (F3.out _).mono ?_
                      rintro e v40 ⟨rfl, hb40⟩
                      have hb := below_then hb hb40
                      clear hb40
                      have HR := Lib.hid (HF4.out G1.out G2.out G3.out)
                      go_wp2_with fail
                      go_ret2
                      exact ⟨by rw [HR.out.1, HR.out.2]; rfl, hb⟩
              · have jT2 : 0 ≤ T2 := by omega
                by_cases mT2 : OL = s.data.toList
                · have HR := Lib.hid (HF2.out G1.out ⟨jT2, mT2⟩)
                  have hq : (xo.toList == s.toList) = true := by rw [Q2.out, mT2]; simp
                  clear mT2
                  go_wp2_with fail
                  refine (F2.out _).mono ?_
                  rintro e v41 ⟨rfl, hb41⟩
                  have hb := below_then hb hb41
                  clear hb41
                  go_wp2_with fail
                  go_ret2
                  exact ⟨by rw [HR.out.1, HR.out.2]; rfl, hb⟩
                · have G2 : Hid (¬ (0 ≤ T2 ∧ OL = s.data.toList)) := fun h => mT2 h.2
                  have hqT2 : (xo.toList == s.toList) = false := by rw [Q2.out]; simpa using mT2
                  clear mT2
                  go_wp2_with fail
                  refine (F2.out _).mono ?_
                  rintro e v42 ⟨rfl, hb42⟩
                  have hb := below_then hb hb42
                  clear hb42
                  go_wp2_with fail
                  refine (E5.out _).mono ?_
                  rintro e w' ⟨rfl, rfl⟩
                  by_cases h5 : N5 < 0
                  · have hdd := HD3.out
                    rw [if_pos h5] at hdd
                    subst hdd
                    go_wp2_with fail
                    refine (E6.out _).mono ?_
                    rintro e w' ⟨rfl, rfl⟩
                    go_wp2_with fail
                    refine (E7.out _).mono ?_
                    rintro e w' ⟨rfl, rfl⟩
                    go_wp2_with fail
                    refine (C3.out _).mono ?_
                    rintro e v43 ⟨rfl, hb43⟩
                    have hb := below_then hb hb43
                    clear hb43
                    by_cases kT3 : T3 < 0
                    · have G3 : Hid (¬ (0 ≤ T3 ∧ PL = s.data.toList)) := fun h => absurd h.1 (by omega)
                      have HR := Lib.hid (HF4.out G1.out G2.out G3.out)
                      go_wp2_with fail
                      go_ret2
                      exact ⟨by rw [HR.out.1, HR.out.2]; rfl, hb⟩
                    · have jT3 : 0 ≤ T3 := by omega
                      by_cases mT3 : PL = s.data.toList
                      · have HR := Lib.hid (HF3.out G1.out G2.out ⟨jT3, mT3⟩)
                        have hq : (xp.toList == s.toList) = true := by rw [Q3.out, mT3]; simp
                        clear mT3
                        go_wp2_with fail
                        refine (F3.out _).mono ?_
                        rintro e v44 ⟨rfl, hb44⟩
                        have hb := below_then hb hb44
                        clear hb44
                        go_wp2_with fail
                        go_ret2
                        exact ⟨by rw [HR.out.1, HR.out.2]; rfl, hb⟩
                      · have G3 : Hid (¬ (0 ≤ T3 ∧ PL = s.data.toList)) := fun h => mT3 h.2
                        have hqT3 : (xp.toList == s.toList) = false := by rw [Q3.out]; simpa using mT3
                        clear mT3
                        go_wp2_with fail
                        refine (F3.out _).mono ?_
                        rintro e v45 ⟨rfl, hb45⟩
                        have hb := below_then hb hb45
                        clear hb45
                        have HR := Lib.hid (HF4.out G1.out G2.out G3.out)
                        go_wp2_with fail
                        go_ret2
                        exact ⟨by rw [HR.out.1, HR.out.2]; rfl, hb⟩
                  · have hdd := HD3.out
                    rw [if_neg h5] at hdd
                    subst hdd
                    go_wp2_with fail
                    refine (E7.out _).mono ?_
                    rintro e w' ⟨rfl, rfl⟩
                    go_wp2_with fail
                    refine (C3.out _).mono ?_
                    rintro e v46 ⟨rfl, hb46⟩
                    have hb := below_then hb hb46
                    clear hb46
                    by_cases kT3 : T3 < 0
                    · have G3 : Hid (¬ (0 ≤ T3 ∧ PL = s.data.toList)) := fun h => absurd h.1 (by omega)
                      have HR := Lib.hid (HF4.out G1.out G2.out G3.out)
                      go_wp2_with fail
                      go_ret2
                      exact ⟨by rw [HR.out.1, HR.out.2]; rfl, hb⟩
                    · have jT3 : 0 ≤ T3 := by omega
                      by_cases mT3 : PL = s.data.toList
                      · have HR := Lib.hid (HF3.out G1.out G2.out ⟨jT3, mT3⟩)
                        have hq : (xp.toList == s.toList) = true := by rw [Q3.out, mT3]; simp
                        clear mT3
                        go_wp2_with fail
                        refine (F3.out _).mono ?_
                        rintro e v47 ⟨rfl, hb47⟩
                        have hb := below_then hb hb47
                        clear hb47
                        go_wp2_with fail
                        go_ret2
                        exact ⟨by rw [HR.out.1, HR.out.2]; rfl, hb⟩
                      · have G3 : Hid (¬ (0 ≤ T3 ∧ PL = s.data.toList)) := fun h => mT3 h.2
                        have hqT3 : (xp.toList == s.toList) = false := by rw [Q3.out]; simpa using mT3
                        clear mT3
                        go_wp2_with fail
                        refine (F3.out _).mono ?_
                        rintro e v48 ⟨rfl, hb48⟩
                        have hb := below_then hb hb48
                        clear hb48
                        have HR := Lib.hid (HF4.out G1.out G2.out G3.out)
                        go_wp2_with fail
                        go_ret2
                        exact ⟨by rw [HR.out.1, HR.out.2]; rfl, hb⟩
            · have hyy := HY2.out
              rw [if_neg h70] at hyy
              subst hyy
              go_wp2_with fail
              refine (E4.out _).mono ?_
              rintro e w' ⟨rfl, rfl⟩
              go_wp2_with fail
              refine (C2.out _).mono ?_
              rintro e v49 ⟨rfl, hb49⟩
              have hb := below_then hb hb49
              clear hb49
              by_cases kT2 : T2 < 0
              · have G2 : Hid (¬ (0 ≤ T2 ∧ OL = s.data.toList)) := fun h => absurd h.1 (by omega)
                go_wp2_with fail
                refine (E5.out _).mono ?_
                rintro e w' ⟨rfl, rfl⟩
                by_cases h5 : N5 < 0
                · have hdd := HD3.out
                  rw [if_pos h5] at hdd
                  subst hdd
                  go_wp2_with fail
                  refine (E6.out _).mono ?_
                  rintro e w' ⟨rfl, rfl⟩
                  go_wp2_with fail
                  refine (E7.out _).mono ?_
                  rintro e w' ⟨rfl, rfl⟩
                  go_wp2_with fail
                  refine (C3.out _).mono ?_
                  rintro e v50 ⟨rfl, hb50⟩
                  have hb := below_then hb hb50
                  clear hb50
                  by_cases kT3 : T3 < 0
                  · have G3 : Hid (¬ (0 ≤ T3 ∧ PL = s.data.toList)) := fun h => absurd h.1 (by omega)
                    have HR := Lib.hid (HF4.out G1.out G2.out G3.out)
                    go_wp2_with fail
                    go_ret2
                    exact ⟨by rw [HR.out.1, HR.out.2]; rfl, hb⟩
                  · have jT3 : 0 ≤ T3 := by omega
                    by_cases mT3 : PL = s.data.toList
                    · have HR := Lib.hid (HF3.out G1.out G2.out ⟨jT3, mT3⟩)
                      have hq : (xp.toList == s.toList) = true := by rw [Q3.out, mT3]; simp
                      clear mT3
                      go_wp2_with fail
                      refine (F3.out _).mono ?_
                      rintro e v51 ⟨rfl, hb51⟩
                      have hb := below_then hb hb51
                      clear hb51
                      go_wp2_with fail
                      go_ret2
                      exact ⟨by rw [HR.out.1, HR.out.2]; rfl, hb⟩
                    · have G3 : Hid (¬ (0 ≤ T3 ∧ PL = s.data.toList)) := fun h => mT3 h.2
                      have hqT3 : (xp.toList == s.toList) = false := by rw [Q3.out]; simpa using mT3
                      clear mT3
                      go_wp2_with fail
                      refine (F3.out _).mono ?_
                      rintro e v52 ⟨rfl, hb52⟩
                      have hb := below_then hb hb52
                      clear hb52
                      have HR := Lib.hid (HF4.out G1.out G2.out G3.out)
                      go_wp2_with fail
                      go_ret2
                      exact ⟨by rw [HR.out.1, HR.out.2]; rfl, hb⟩
                · have hdd := HD3.out
                  rw [if_neg h5] at hdd
                  subst hdd
                  go_wp2_with fail
                  refine (E7.out _).mono ?_
                  rintro e w' ⟨rfl, rfl⟩
                  go_wp2_with fail
                  refine (C3.out _).mono ?_
                  rintro e v53 ⟨rfl, hb53⟩
                  have hb := below_then hb hb53
                  clear hb53
                  by_cases kT3 : T3 < 0
                  · have G3 : Hid (¬ (0 ≤ T3 ∧ PL = s.data.toList)) := fun h => absurd h.1 (by omega)
                    have HR := Lib.hid (HF4.out G1.out G2.out G3.out)
                    go_wp2_with fail
                    go_ret2
                    exact ⟨by rw [HR.out.1, HR.out.2]; rfl, hb⟩
                  · have jT3 : 0 ≤ T3 := by omega
                    by_cases mT3 : PL = s.data.toList
                    · have HR := Lib.hid (HF3.out G1.out G2.out ⟨jT3, mT3⟩)
                      have hq : (xp.toList == s.toList) = true := by rw [Q3.out, mT3]; simp
                      clear mT3
                      go_wp2_with fail
                      refine (F3.out _).mono ?_
                      rintro e v54 ⟨rfl, hb54⟩
                      have hb := below_then hb hb54
                      clear hb54
                      go_wp2_with fail
                      go_ret2
                      exact ⟨by rw [HR.out.1, HR.out.2]; rfl, hb⟩
                    · have G3 : Hid (¬ (0 ≤ T3 ∧ PL = s.data.toList)) := fun h => mT3 h.2
                      have hqT3 : (xp.toList == s.toList) = false := by rw [Q3.out]; simpa using mT3
                      clear mT3
                      go_wp2_with fail
                      refine (F3.out _).mono ?_
                      rintro e v55 ⟨rfl, hb55⟩
                      have hb := below_then hb hb55
                      clear hb55
                      have HR := Lib.hid (HF4.out G1.out G2.out G3.out)
                      go_wp2_with fail
                      go_ret2
                      exact ⟨by rw [HR.out.1, HR.out.2]; rfl, hb⟩
              · have jT2 : 0 ≤ T2 := by omega
                by_cases mT2 : OL = s.data.toList
                · have HR := Lib.hid (HF2.out G1.out ⟨jT2, mT2⟩)
                  have hq : (xo.toList == s.toList) = true := by rw [Q2.out, mT2]; simp
                  clear mT2
                  go_wp2_with fail
                  refine (F2.out _).mono ?_
                  rintro e v56 ⟨rfl, hb56⟩
                  have hb := below_then hb hb56
                  clear hb56
                  go_wp2_with fail
                  go_ret2
                  exact ⟨by rw [HR.out.1, HR.out.2]; rfl, hb⟩
                · have G2 : Hid (¬ (0 ≤ T2 ∧ OL = s.data.toList)) := fun h => mT2 h.2
                  have hqT2 : (xo.toList == s.toList) = false := by rw [Q2.out]; simpa using mT2
                  clear mT2
                  go_wp2_with fail
                  refine (F2.out _).mono ?_
                  rintro e v57 ⟨rfl, hb57⟩
                  have hb := below_then hb hb57
                  clear hb57
                  go_wp2_with fail
                  refine (E5.out _).mono ?_
                  rintro e w' ⟨rfl, rfl⟩
                  by_cases h5 : N5 < 0
                  · have hdd := HD3.out
                    rw [if_pos h5] at hdd
                    subst hdd
                    go_wp2_with fail
                    refine (E6.out _).mono ?_
                    rintro e w' ⟨rfl, rfl⟩
                    go_wp2_with fail
                    refine (E7.out _).mono ?_
                    rintro e w' ⟨rfl, rfl⟩
                    go_wp2_with fail
                    refine (C3.out _).mono ?_
                    rintro e v58 ⟨rfl, hb58⟩
                    have hb := below_then hb hb58
                    clear hb58
                    by_cases kT3 : T3 < 0
                    · have G3 : Hid (¬ (0 ≤ T3 ∧ PL = s.data.toList)) := fun h => absurd h.1 (by omega)
                      have HR := Lib.hid (HF4.out G1.out G2.out G3.out)
                      go_wp2_with fail
                      go_ret2
                      exact ⟨by rw [HR.out.1, HR.out.2]; rfl, hb⟩
                    · have jT3 : 0 ≤ T3 := by omega
                      by_cases mT3 : PL = s.data.toList
                      · have HR := Lib.hid (HF3.out G1.out G2.out ⟨jT3, mT3⟩)
                        have hq : (xp.toList == s.toList) = true := by rw [Q3.out, mT3]; simp
                        clear mT3
                        go_wp2_with fail
                        refine (F3.out _).mono ?_
                        rintro e v59 ⟨rfl, hb59⟩
                        have hb := below_then hb hb59
                        clear hb59
                        go_wp2_with fail
                        go_ret2
                        exact ⟨by rw [HR.out.1, HR.out.2]; rfl, hb⟩
                      · have G3 : Hid (¬ (0 ≤ T3 ∧ PL = s.data.toList)) := fun h => mT3 h.2
                        have hqT3 : (xp.toList == s.toList) = false := by rw [Q3.out]; simpa using mT3
                        clear mT3
                        go_wp2_with fail
                        refine (F3.out _).mono ?_
                        rintro e v60 ⟨rfl, hb60⟩
                        have hb := below_then hb hb60
                        clear hb60
                        have HR := Lib.hid (HF4.out G1.out G2.out G3.out)
                        go_wp2_with fail
                        go_ret2
                        exact ⟨by rw [HR.out.1, HR.out.2]; rfl, hb⟩
                  · have hdd := HD3.out
                    rw [if_neg h5] at hdd
                    subst hdd
                    go_wp2_with fail
                    refine (E7.out _).mono ?_
                    rintro e w' ⟨rfl, rfl⟩
                    go_wp2_with fail
                    refine (C3.out _).mono ?_
                    rintro e v61 ⟨rfl, hb61⟩
                    have hb := below_then hb hb61
                    clear hb61
                    by_cases kT3 : T3 < 0
                    · have G3 : Hid (¬ (0 ≤ T3 ∧ PL = s.data.toList)) := fun h => absurd h.1 (by omega)
                      have HR := Lib.hid (HF4.out G1.out G2.out G3.out)
                      go_wp2_with fail
                      go_ret2
                      exact ⟨by rw [HR.out.1, HR.out.2]; rfl, hb⟩
                    · have jT3 : 0 ≤ T3 := by omega
                      by_cases mT3 : PL = s.data.toList
                      · have HR := Lib.hid (HF3.out G1.out G2.out ⟨jT3, mT3⟩)
                        have hq : (xp.toList == s.toList) = true := by rw [Q3.out, mT3]; simp
                        clear mT3
                        go_wp2_with fail
                        refine (F3.out _).mono ?_
                        rintro e v62 ⟨rfl, hb62⟩
                        have hb := below_then hb hb62
                        clear hb62
                        go_wp2_with fail
                        go_ret2
                        exact ⟨by rw [HR.out.1, HR.out.2]; rfl, hb⟩
                      · have G3 : Hid (¬ (0 ≤ T3 ∧ PL = s.data.toList)) := fun h => mT3 h.2
                        have hqT3 : (xp.toList == s.toList) = false := by rw [Q3.out]; simpa using mT3
                        clear mT3
                        go_wp2_with fail
                        refine (F3.out _).mono ?_
                        rintro e v63 ⟨rfl, hb63⟩
                        have hb := below_then hb hb63
                        clear hb63
                        have HR := Lib.hid (HF4.out G1.out G2.out G3.out)
                        go_wp2_with fail
                        go_ret2
                        exact ⟨by rw [HR.out.1, HR.out.2]; rfl, hb⟩

end Go.Proofs.YtjkfdjolhmgemaaGreatDoor
end
