/-
  Contracts of the reference's version, Request (layer 10).
-/
import Derived.Test.YtbmlldjkfpekkaaDoorLirM
import Derived.Test.YtbmlldjkfpekkaaDoorOctRt
import Derived.Test.YtbmlldjkfpekkaaDoorDecW
import Derived.Test.YtbmlldjkfpekkaaDoorDecV
namespace Go.Proofs.YtbmlldjkfpekkaaDoor
open Go.RowKit

theorem r_version (s : ByteArray) (w : World) :
    Calls Tryd.prog 25 #[.string s] w fun e w' => e = .returned (.int .i64 (verI s)) ∧ w = w' := by
  have both : ∀ t : Bool, t = true ∨ t = false := fun t => by cases t <;> simp
  rcases both (s.toList == ht0) with h | h
  · have HV : Hid (verI s = 0) := by show _ = _; unfold verI; rw [if_pos h]
    unfold ht0 at h
    go_enter Tryd.func25, Tryd.ntmps25
    go_wp2_with fail
    go_ret
    exact ⟨by rw [HV.out]; rfl, rfl⟩
  · rcases both (s.toList == ht1) with g | g
    · have HV : Hid (verI s = 1) := by show _ = _; unfold verI; rw [if_neg (by rw [h]; simp), if_pos g]
      unfold ht0 at h
      unfold ht1 at g
      go_enter Tryd.func25, Tryd.ntmps25
      go_wp2_with fail
      go_ret
      exact ⟨by rw [HV.out]; rfl, rfl⟩
    · have HV : Hid (verI s = -1) := by show _ = _; unfold verI; rw [if_neg (by rw [h]; simp), if_neg (by rw [g]; simp)]
      unfold ht0 at h
      unfold ht1 at g
      go_enter Tryd.func25, Tryd.ntmps25
      go_wp2_with fail
      go_ret
      exact ⟨by rw [HV.out]; rfl, rfl⟩

set_option maxHeartbeats 4000000 in
set_option maxRecDepth 100000 in
theorem r_request (s : ByteArray) (w : World) (hs : s.size ≤ maxLen) :
    Calls Tryd.prog 8 #[.string s] w fun e w' => e = .returned (.tuple #[.string (rqA s), .string (rqB s), .int .i64 (rqV s), .int .i64 (rqE s)]) ∧ Below w.heap.size w w' := by
  by_cases hl : 8192 < s.size
  · have HR := Lib.hid (rq_long hl)
    have hl' : (8192 : Int) < (s.size : Int) := by omega
    clear hl
    go_enter Tryd.func8, Tryd.ntmps8
    go_wp2_with fail
    (try simp only [Exit.inBlock, Exit.then]); refine bodyPost_ret (results_tmp4 rfl _ _ _) rfl ?_
    exact ⟨by rw [HR.out.1, HR.out.2.1, HR.out.2.2.1, HR.out.2.2.2]; rfl, Below.refl _ _⟩
  · have hl' : ¬ (8192 : Int) < (s.size : Int) := by omega
    have hZ : (cutZ s 32).size ≤ maxLen := by
      refine Nat.le_trans ?_ hs
      unfold cutZ
      split
      · exact Nat.zero_le _
      · rw [ByteArray.size_extract]; omega
    have hM : (rqM s).size ≤ maxLen := by
      refine Nat.le_trans ?_ hs
      unfold rqM cutA
      split
      · exact Nat.le_refl _
      · rw [ByteArray.size_extract]; omega
    have hT : (rqT s).size ≤ 8192 := by
      have h1 : (rqT s).size ≤ (cutZ s 32).size := by
        unfold rqT cutA
        split
        · exact Nat.le_refl _
        · rw [ByteArray.size_extract]; omega
      have h2 : (cutZ s 32).size ≤ s.size := by
        unfold cutZ
        split
        · exact Nat.zero_le _
        · rw [ByteArray.size_extract]; omega
      omega
    have c1 := fun W => r_cut s 32 W hs (by decide) (by decide)
    have c2 := fun W => r_cut (cutZ s 32) 32 W hZ (by decide) (by decide)
    have c3 := fun W => r_version (rqL s) W
    have c4 := fun W => r_isToken (rqM s) W hM
    have hno := fun h => rq_no (s := s) hl h
    have hye := fun h => rq_yes (s := s) hl h
    have hO : rqO s = (((tokS (rqM s) && !(rqT s).toList.isEmpty) && decide (0 ≤ verI (rqL s))) && allB visB (rqT s).data.toList) := rfl
    have t4 : (!(rqM s).toList.isEmpty && allB tokB (rqM s).data.toList) = tokS (rqM s) := rfl
    rw [t4] at c4
    have e1 : cutA s 32 = rqM s := rfl
    have e2 : cutA (cutZ s 32) 32 = rqT s := rfl
    have e3 : cutZ (cutZ s 32) 32 = rqL s := rfl
    rw [e1] at c1
    rw [e2, e3] at c2
    clear e1 e2 e3 t4
    generalize rqO s = O at *
    generalize rqA s = RA at *
    generalize rqB s = RB at *
    generalize rqV s = RV at *
    generalize rqE s = RE at *
    generalize rqM s = M at *
    generalize rqT s = T at *
    generalize rqL s = L at *
    generalize cutZ s 32 = Z at *
    generalize cutOk s 32 = k1 at *
    generalize cutOk Z 32 = k2 at *
    generalize verI L = v at *
    generalize tokS M = tk at *
    have C1 := Lib.hid c1
    have C2 := Lib.hid c2
    have C3 := Lib.hid c3
    have C4 := Lib.hid c4
    clear c1 c2 c3 c4 hZ hM hl
    cases tk with
    | false =>
      have HR := Lib.hid (hno (by rw [hO]; rfl))
      clear hno hye hO
      go_enter Tryd.func8, Tryd.ntmps8
      go_wp2_with fail
      refine (C1.out _).mono ?_
      rintro e w1 ⟨rfl, hb1⟩
      have HB1 := Lib.hid hb1
      clear hb1
      go_wp2_with fail
      refine (C2.out _).mono ?_
      rintro e w2 ⟨rfl, hb2⟩
      have HB2 := Lib.hid (below_then HB1.out hb2)
      clear hb2
      go_wp2_with fail
      refine (C3.out _).mono ?_
      rintro e w3 ⟨rfl, rfl⟩
      go_wp2_with fail
      refine (C4.out _).mono ?_
      rintro e w3 ⟨rfl, rfl⟩
      go_wp2_with fail
      (try simp only [Exit.inBlock, Exit.then]); refine bodyPost_ret (results_tmp4 rfl _ _ _) rfl ?_
      exact ⟨by rw [HR.out.1, HR.out.2.1, HR.out.2.2.1, HR.out.2.2.2]; rfl, HB2.out⟩
    | true =>
      by_cases hT0 : T.size = 0
      · have hem := nil_str hT0
        have HR := Lib.hid (hno (by rw [hO, hem]; rfl))
        clear hno hye hO hT0
        go_enter Tryd.func8, Tryd.ntmps8
        go_wp2_with fail
        refine (C1.out _).mono ?_
        rintro e w1 ⟨rfl, hb1⟩
        have HB1 := Lib.hid hb1
        clear hb1
        go_wp2_with fail
        refine (C2.out _).mono ?_
        rintro e w2 ⟨rfl, hb2⟩
        have HB2 := Lib.hid (below_then HB1.out hb2)
        clear hb2
        go_wp2_with fail
        refine (C3.out _).mono ?_
        rintro e w3 ⟨rfl, rfl⟩
        go_wp2_with fail
        refine (C4.out _).mono ?_
        rintro e w3 ⟨rfl, rfl⟩
        go_wp2_with fail
        (try simp only [Exit.inBlock, Exit.then]); refine bodyPost_ret (results_tmp4 rfl _ _ _) rfl ?_
        exact ⟨by rw [HR.out.1, HR.out.2.1, HR.out.2.2.1, HR.out.2.2.2]; rfl, HB2.out⟩
      · have hem := non_str hT0
        by_cases hv : v < 0
        · have HR := Lib.hid (hno (by rw [hO, hem, decide_eq_false (by omega)]; rfl))
          clear hno hye hO hT0
          go_enter Tryd.func8, Tryd.ntmps8
          go_wp2_with fail
          refine (C1.out _).mono ?_
          rintro e w1 ⟨rfl, hb1⟩
          have HB1 := Lib.hid hb1
          clear hb1
          go_wp2_with fail
          refine (C2.out _).mono ?_
          rintro e w2 ⟨rfl, hb2⟩
          have HB2 := Lib.hid (below_then HB1.out hb2)
          clear hb2
          go_wp2_with fail
          refine (C3.out _).mono ?_
          rintro e w3 ⟨rfl, rfl⟩
          go_wp2_with fail
          refine (C4.out _).mono ?_
          rintro e w3 ⟨rfl, rfl⟩
          go_wp2_with fail
          (try simp only [Exit.inBlock, Exit.then]); refine bodyPost_ret (results_tmp4 rfl _ _ _) rfl ?_
          exact ⟨by rw [HR.out.1, HR.out.2.1, HR.out.2.2.1, HR.out.2.2.2]; rfl, HB2.out⟩
        · have hO2 : O = allB visB T.data.toList := by rw [hO, hem, decide_eq_true (by omega)]; simp
          have HNO := Lib.hid hno
          have HYE := Lib.hid hye
          have HO2 := Lib.hid hO2
          clear hno hye hO hO2 hT0
          go_enter Tryd.func8, Tryd.ntmps8
          go_wp2_with fail
          refine (C1.out _).mono ?_
          rintro e w1 ⟨rfl, hb1⟩
          have HB1 := Lib.hid hb1
          clear hb1
          go_wp2_with fail
          refine (C2.out _).mono ?_
          rintro e w2 ⟨rfl, hb2⟩
          have HB2 := Lib.hid (below_then HB1.out hb2)
          clear hb2
          go_wp2_with fail
          refine (C3.out _).mono ?_
          rintro e w3 ⟨rfl, rfl⟩
          go_wp2_with fail
          refine (C4.out _).mono ?_
          rintro e w3 ⟨rfl, rfl⟩
          go_wp2_with fail
          go_loop [13] (fun i => ∃ k : Nat, k ≤ T.size ∧ i = .int .i64 k ∧ Hid (allB visB (T.data.toList.take k) = true)) (fun i => T.size - (intOf i).toNat)
          case atStart => exact ⟨0, Nat.zero_le _, rfl, rfl⟩
          case round =>
            obtain ⟨k, hk, rfl, hf⟩ := hrel
            by_cases hlt : k < T.size
            · have hbd := byte_wf T[k]
              have hi0 : (0 : Int) ≤ (k : Int) := by omega
              have hi1 : (k : Int) < (T.size : Int) := by omega
              have HA := Lib.hid (allB_take visB T k hlt)
              have HF : Hid (visB (T[k].toNat : Int) = false → allB visB T.data.toList = false) := fun h => allB_false visB T k hlt h
              by_cases h1 : (T[k].toNat : Int) < 33
              · have HR := Lib.hid (HNO.out (by rw [HO2.out]; exact HF.out (by unfold visB; rw [decide_eq_false (by omega)]; rfl)))
                clear hf HA HF
                go_wp2_with fail
                (try simp only [Exit.inBlock, Exit.then]); refine bodyPost_ret (results_tmp4 rfl _ _ _) rfl ?_
                exact ⟨by rw [HR.out.1, HR.out.2.1, HR.out.2.2.1, HR.out.2.2.2]; rfl, HB2.out⟩
              · by_cases h2 : (126 : Int) < (T[k].toNat : Int)
                · have HR := Lib.hid (HNO.out (by rw [HO2.out]; exact HF.out (by unfold visB; rw [decide_eq_false (p := (T[k].toNat : Int) ≤ 126) (by omega), Bool.and_false])))
                  clear hf HA HF
                  go_wp2_with fail
                  (try simp only [Exit.inBlock, Exit.then]); refine bodyPost_ret (results_tmp4 rfl _ _ _) rfl ?_
                  exact ⟨by rw [HR.out.1, HR.out.2.1, HR.out.2.2.1, HR.out.2.2.2]; rfl, HB2.out⟩
                · have HR : Hid (allB visB (T.data.toList.take (k + 1)) = true) := by
                    show _ = _
                    rw [HA.out, hf.out]
                    unfold visB
                    rw [decide_eq_true (by omega), decide_eq_true (by omega)]; rfl
                  clear hf HA HF
                  go_wp2_with fail
                  go_round
                  case rel => exact ⟨k + 1, by omega, by go_num, HR⟩
                  case measure => simp [intOf]; omega
            · have HR := Lib.hid (HYE.out (by rw [HO2.out]; exact allB_full visB T k (by omega) hf.out))
              clear hf
              go_wp2_with fail
              (try simp only [Exit.inBlock, Exit.then]); refine bodyPost_ret (results_tmp4 rfl _ _ _) rfl ?_
              exact ⟨by rw [HR.out.1, HR.out.2.1, HR.out.2.2.1, HR.out.2.2.2]; rfl, HB2.out⟩

end Go.Proofs.YtbmlldjkfpekkaaDoor
