/-
  Texts that the laws of this seat lean on, one behind the other.
-/
import Derived.Test.YtjcomlklmfeimaaGreatDoorMrgJ
import Derived.Deep.RegionHeld3
/-
  Contracts of the reference's Status, PrintRequest, PrintStatus, Safe, Usual (layer 10).
-/
section
namespace Go.Proofs.YtjcomlklmfeimaaGreatDoor
open Go.RowKit

set_option maxHeartbeats 8000000 in
set_option maxRecDepth 100000 in
theorem r_status (s : ByteArray) (w : World) (hs : s.size ≤ maxLen) :
    Calls Tryz.prog 44 #[.string s] w fun e w' => e = .returned (.tuple #[.int .i64 (stN s), .string (stB s), .int .i64 (stV' s), .int .i64 (stE s)]) ∧ Below w.heap.size w w' := by
  by_cases hl : 8192 < s.size
  · have HR := Lib.hid (st_long hl)
    have hl' : (8192 : Int) < (s.size : Int) := by omega
    clear hl
    go_enter Tryz.func44, Tryz.ntmps44
    go_wp2_with fail
    (try simp only [Exit.inBlock, Exit.then]); refine bodyPost_ret (results_tmp4 rfl _ _ _) rfl ?_
    exact ⟨by rw [HR.out.1, HR.out.2.1, HR.out.2.2.1, HR.out.2.2.2]; rfl, Below.refl _ _⟩
  · have hl' : ¬ (8192 : Int) < (s.size : Int) := by omega
    have hno := fun h => st_no (s := s) hl h
    have hye := fun h => st_yes (s := s) hl h
    by_cases h13 : s.size < 13
    · have HR := Lib.hid (hno (by unfold stO stH; rw [decide_eq_false (by omega)]; rfl))
      have h13' : (s.size : Int) < 13 := by omega
      clear hno hye hl h13
      go_enter Tryz.func44, Tryz.ntmps44
      go_wp2_with fail
      (try simp only [Exit.inBlock, Exit.then]); refine bodyPost_ret (results_tmp4 rfl _ _ _) rfl ?_
      exact ⟨by rw [HR.out.1, HR.out.2.1, HR.out.2.2.1, HR.out.2.2.2]; rfl, Below.refl _ _⟩
    · have h13' : ¬ (s.size : Int) < 13 := by omega
      have i8 : (8 : Int) < (s.size : Int) := by omega
      have i8' : (8 : Int) ≤ (s.size : Int) := by omega
      have i9 : (12 : Int) ≤ (s.size : Int) := by omega
      have i12 : (12 : Int) < (s.size : Int) := by omega
      have i13 : (13 : Int) ≤ (s.size : Int) := by omega
      have n8 : 8 < s.size := by omega
      have n12 : 12 < s.size := by omega
      have b8 := byteI_at n8
      have b12 := byteI_at n12
      have hO : stO s = ((((decide (13 ≤ s.size) && decide (0 ≤ verI (s.extract 0 8))) && (byteI s 8 == 32)) && (byteI s 12 == 32)) && (((stX s == 0) && decide (100 ≤ stC s)) && allB txtB (stR s).data.toList)) := rfl
      rw [b8, b12, decide_eq_true (show 13 ≤ s.size by omega)] at hO
      have cv := fun W => r_version (s.extract 0 8) W
      have cn := fun W => r_number_any (s.extract 9 12) 599 W (by rw [ByteArray.size_extract]; have : (3 : Nat) ≤ maxLen := by decide
                                                                  omega)
      have t1 : numN 10 18 599 (s.extract 9 12).data.toList = stC s := rfl
      have t2 : numE 10 18 599 (s.extract 9 12).data.toList = stX s := rfl
      rw [t1, t2] at cn
      have hRs : (s.extract 13 s.size).size ≤ maxLen := by rw [ByteArray.size_extract]; omega
      have cx := fun W => r_isText (s.extract 13 s.size) W hRs
      have t3 : stR s = s.extract 13 s.size := rfl
      rw [t3] at hO hye
      generalize stO s = O at *
      generalize stN s = RN at *
      generalize stB s = RB at *
      generalize stV' s = RV at *
      generalize stE s = RE at *
      generalize stC s = C at *
      generalize stX s = Y at *
      generalize allB txtB (s.extract 13 s.size).data.toList = tx at *
      generalize verI (s.extract 0 8) = v at *
      have CV := Lib.hid cv
      have CN := Lib.hid cn
      have CX := Lib.hid cx
      clear cv cn cx t1 t2 t3 hRs hl h13 b8 b12
      by_cases hv : v < 0
      · have HR := Lib.hid (hno (by rw [hO, decide_eq_false (p := 0 ≤ v) (by omega)]; rfl))
        clear hno hye hO
        go_enter Tryz.func44, Tryz.ntmps44
        go_wp2_with fail
        refine (CV.out _).mono ?_
        rintro e v1 ⟨rfl, rfl⟩
        go_wp2_with fail
        (try simp only [Exit.inBlock, Exit.then]); refine bodyPost_ret (results_tmp4 rfl _ _ _) rfl ?_
        exact ⟨by rw [HR.out.1, HR.out.2.1, HR.out.2.2.1, HR.out.2.2.2]; rfl, Below.refl _ _⟩
      · rw [decide_eq_true (p := 0 ≤ v) (by omega)] at hO
        by_cases h8 : (s[8].toNat : Int) = 32
        · by_cases h12 : (s[12].toNat : Int) = 32
          · have e8 : ((s[8].toNat : Int) != 32) = false := by rw [h8]; rfl
            have e12 : ((s[12].toNat : Int) != 32) = false := by rw [h12]; rfl
            rw [h8, h12] at hO
            by_cases hY : Y = 0
            · subst hY
              by_cases hC : C < 100
              · have HR := Lib.hid (hno (by rw [hO, decide_eq_false (p := 100 ≤ C) (by omega)]; rfl))
                clear hno hye hO h8 h12
                go_enter Tryz.func44, Tryz.ntmps44
                go_wp2_with fail
                refine (CV.out _).mono ?_
                rintro e v1 ⟨rfl, rfl⟩
                go_wp2_with fail
                refine (CN.out _).mono ?_
                rintro e v2 ⟨rfl, rfl⟩
                go_wp2_with fail
                (try simp only [Exit.inBlock, Exit.then]); refine bodyPost_ret (results_tmp4 rfl _ _ _) rfl ?_
                exact ⟨by rw [HR.out.1, HR.out.2.1, HR.out.2.2.1, HR.out.2.2.2]; rfl, Below.refl _ _⟩
              · rw [decide_eq_true (p := 100 ≤ C) (by omega)] at hO
                cases tx with
                | false =>
                  have HR := Lib.hid (hno (by rw [hO]; rfl))
                  clear hno hye hO h8 h12
                  go_enter Tryz.func44, Tryz.ntmps44
                  go_wp2_with fail
                  refine (CV.out _).mono ?_
                  rintro e v1 ⟨rfl, rfl⟩
                  go_wp2_with fail
                  refine (CN.out _).mono ?_
                  rintro e v2 ⟨rfl, rfl⟩
                  go_wp2_with fail
                  refine (CX.out _).mono ?_
                  rintro e v3 ⟨rfl, rfl⟩
                  go_wp2_with fail
                  (try simp only [Exit.inBlock, Exit.then]); refine bodyPost_ret (results_tmp4 rfl _ _ _) rfl ?_
                  exact ⟨by rw [HR.out.1, HR.out.2.1, HR.out.2.2.1, HR.out.2.2.2]; rfl, Below.refl _ _⟩
                | true =>
                  have HR := Lib.hid (hye (by rw [hO]; rfl))
                  clear hno hye hO h8 h12
                  go_enter Tryz.func44, Tryz.ntmps44
                  go_wp2_with fail
                  refine (CV.out _).mono ?_
                  rintro e v1 ⟨rfl, rfl⟩
                  go_wp2_with fail
                  refine (CN.out _).mono ?_
                  rintro e v2 ⟨rfl, rfl⟩
                  go_wp2_with fail
                  refine (CX.out _).mono ?_
                  rintro e v3 ⟨rfl, rfl⟩
                  go_wp2_with fail
                  have hbD : Below w.heap.size w w.drew := (Below.refl _ _).drew
                  go_region_held3 (fun _ => True) (trivial) (first
                    | (go_at_call 71; refine (CV.out _).mono ?_; rintro e v4 ⟨rfl, rfl⟩))
                  go_wp2_with fail
                  (try simp only [Exit.inBlock, Exit.then]); refine bodyPost_ret (results_tmp4 rfl _ _ _) rfl ?_
                  exact ⟨by rw [HR.out.1, HR.out.2.1, HR.out.2.2.1, HR.out.2.2.2]; rfl, hbD⟩
            · have hY1 : (Y == 0) = false := by simpa using hY
              have hY2 : (Y != 0) = true := by simpa using hY
              have HR := Lib.hid (hno (by rw [hO, hY1]; rfl))
              clear hno hye hO h8 h12
              go_enter Tryz.func44, Tryz.ntmps44
              go_wp2_with fail
              refine (CV.out _).mono ?_
              rintro e v1 ⟨rfl, rfl⟩
              go_wp2_with fail
              refine (CN.out _).mono ?_
              rintro e v2 ⟨rfl, rfl⟩
              go_wp2_with fail
              (try simp only [Exit.inBlock, Exit.then]); refine bodyPost_ret (results_tmp4 rfl _ _ _) rfl ?_
              exact ⟨by rw [HR.out.1, HR.out.2.1, HR.out.2.2.1, HR.out.2.2.2]; rfl, Below.refl _ _⟩
          · have e8 : ((s[8].toNat : Int) != 32) = false := by rw [h8]; rfl
            have e12 : ((s[12].toNat : Int) != 32) = true := by simpa using h12
            have e12' : ((s[12].toNat : Int) == 32) = false := by simpa using h12
            have HR := Lib.hid (hno (by rw [hO, e12']; simp))
            clear hno hye hO h8 h12 e12'
            go_enter Tryz.func44, Tryz.ntmps44
            go_wp2_with fail
            refine (CV.out _).mono ?_
            rintro e v1 ⟨rfl, rfl⟩
            go_wp2_with fail
            (try simp only [Exit.inBlock, Exit.then]); refine bodyPost_ret (results_tmp4 rfl _ _ _) rfl ?_
            exact ⟨by rw [HR.out.1, HR.out.2.1, HR.out.2.2.1, HR.out.2.2.2]; rfl, Below.refl _ _⟩
        · have e8 : ((s[8].toNat : Int) != 32) = true := by simpa using h8
          have e8' : ((s[8].toNat : Int) == 32) = false := by simpa using h8
          have HR := Lib.hid (hno (by rw [hO, e8']; rfl))
          clear hno hye hO h8 e8'
          go_enter Tryz.func44, Tryz.ntmps44
          go_wp2_with fail
          refine (CV.out _).mono ?_
          rintro e v1 ⟨rfl, rfl⟩
          go_wp2_with fail
          (try simp only [Exit.inBlock, Exit.then]); refine bodyPost_ret (results_tmp4 rfl _ _ _) rfl ?_
          exact ⟨by rw [HR.out.1, HR.out.2.1, HR.out.2.2.1, HR.out.2.2.2]; rfl, Below.refl _ _⟩

theorem r_printRequest (m t : ByteArray) (v : Int) (h0 : -9223372036854775808 ≤ v) (h1 : v ≤ 9223372036854775807) (hm : m.size ≤ 1000000) (ht : t.size ≤ 1000000) (w : World) :
    Calls Tryz.prog 49 #[.string m, .string t, .int .i64 v] w fun e w' => e = .returned (.string (prqS m t v)) ∧ Below w.heap.size w w' := by
  have hD : prqS m t v = m ++ (⟨#[32]⟩ : ByteArray) ++ t ++ (⟨#[32, 72, 84, 84, 80, 47, 49, 46]⟩ : ByteArray) ++ mkS (plainL v) := rfl
  rw [hD]
  have hz : (mkS (plainL v)).size ≤ 20 := by rw [mkS_size]; exact plainL_short v h0 h1
  have c := Lib.hid (fun W => r_plain v h0 h1 W)
  generalize mkS (plainL v) = D at *
  have z1 : (m ++ (⟨#[32]⟩ : ByteArray)).size = m.size + 1 := by rw [ByteArray.size_append]; rfl
  have z2 : (m ++ (⟨#[32]⟩ : ByteArray) ++ t).size = m.size + 1 + t.size := by rw [ByteArray.size_append, z1]
  have z3 : (m ++ (⟨#[32]⟩ : ByteArray) ++ t ++ (⟨#[32, 72, 84, 84, 80, 47, 49, 46]⟩ : ByteArray)).size = m.size + 1 + t.size + 8 := by rw [ByteArray.size_append, z2]; rfl
  have k1 : ¬ 9223372036854775807 < m.size + 1 := by omega
  have k2 : ¬ 9223372036854775807 < m.size + 1 + t.size := by omega
  have k3 : ¬ 9223372036854775807 < m.size + 1 + t.size + 8 := by omega
  have k4 : ¬ 9223372036854775807 < m.size + 1 + t.size + 8 + D.size := by omega
  clear hD
  go_enter Tryz.func49, Tryz.ntmps49
  go_wp2_with fail
  refine (c.out _).mono ?_
  rintro e w1 ⟨rfl, hb⟩
  go_wp2_with fail
  go_ret
  exact ⟨rfl, hb⟩

theorem r_printStatus (c : Int) (r : ByteArray) (v : Int) (g0 : -9223372036854775808 ≤ c) (g1 : c ≤ 9223372036854775807) (h0 : -9223372036854775808 ≤ v) (h1 : v ≤ 9223372036854775807) (hr : r.size ≤ 1000000) (w : World) :
    Calls Tryz.prog 54 #[.int .i64 c, .string r, .int .i64 v] w fun e w' => e = .returned (.string (pstS c r v)) ∧ Below w.heap.size w w' := by
  have hD : pstS c r v = (⟨#[72, 84, 84, 80, 47, 49, 46]⟩ : ByteArray) ++ mkS (plainL v) ++ (⟨#[32]⟩ : ByteArray) ++ mkS (plainL c) ++ (⟨#[32]⟩ : ByteArray) ++ r := rfl
  rw [hD]
  have hz : (mkS (plainL v)).size ≤ 20 := by rw [mkS_size]; exact plainL_short v h0 h1
  have hy : (mkS (plainL c)).size ≤ 20 := by rw [mkS_size]; exact plainL_short c g0 g1
  have c1 := Lib.hid (fun W => r_plain v h0 h1 W)
  have c2 := Lib.hid (fun W => r_plain c g0 g1 W)
  generalize mkS (plainL v) = D at *
  generalize mkS (plainL c) = E at *
  have z1 : ((⟨#[72, 84, 84, 80, 47, 49, 46]⟩ : ByteArray) ++ D).size = 7 + D.size := by rw [ByteArray.size_append]; rfl
  have z2 : ((⟨#[72, 84, 84, 80, 47, 49, 46]⟩ : ByteArray) ++ D ++ (⟨#[32]⟩ : ByteArray)).size = 7 + D.size + 1 := by rw [ByteArray.size_append, z1]; rfl
  have k1 : ¬ 9223372036854775807 < 7 + D.size := by omega
  have k2 : ¬ 9223372036854775807 < 7 + D.size + 1 := by omega
  have k3 : ¬ 9223372036854775807 < 7 + D.size + 1 + E.size := by omega
  have k4 : ¬ 9223372036854775807 < 7 + D.size + 1 + E.size + 1 := by omega
  have k5 : ¬ 9223372036854775807 < 7 + D.size + 1 + E.size + 1 + r.size := by omega
  clear hD
  go_enter Tryz.func54, Tryz.ntmps54
  go_wp2_with fail
  refine (c1.out _).mono ?_
  rintro e w1 ⟨rfl, hb⟩
  go_wp2_with fail
  refine (c2.out _).mono ?_
  rintro e w2 ⟨rfl, hb2⟩
  go_wp2_with fail
  go_ret
  exact ⟨rfl, below_then hb hb2⟩

end Go.Proofs.YtjcomlklmfeimaaGreatDoor
end
