/-
  Texts that the laws of this seat lean on, one behind the other.
-/
import Derived.Test.YtjcomlklmfeimaaGreatDoorMrgB
import Derived.Test.YtjcomlklmfeimaaGreatDoorMrgG
import Derived.Test.YtjcomlklmfeimaaGreatDoorMrgI
/-
  Contracts of quotedEnd and elementEnd of package items, for every text and every place in it.
-/
section
namespace Go.Proofs.YtjcomlklmfeimaaGreatDoor
open Go.RowKit

def posOk (o : Option Nat) : Bool := o.isSome
def posN (o : Option Nat) : Int := ((o.getD 0 : Nat) : Int)
theorem pos_some (m : Nat) : Ending.returned (.tuple #[.int .i64 (posN (some m)), .bool (posOk (some m))]) = .returned (.tuple #[.int .i64 (m : Int), .bool true]) := rfl
theorem byte_eq {c : UInt8} {n : Nat} (hn : n < 256) (h : ((c.toNat : Int) == (n : Int)) = true) : c = UInt8.ofNat n := by
  rw [beq_iff_eq] at h
  rw [← UInt8.toNat_inj, UInt8.toNat_ofNat']
  omega
theorem byte_ne {c : UInt8} {n : Nat} (hn : n < 256) (h : ((c.toNat : Int) == (n : Int)) = false) : c ≠ UInt8.ofNat n := by
  rintro rfl
  rw [UInt8.toNat_ofNat', Nat.mod_eq_of_lt (by omega)] at h
  simp at h

theorem quotedEnd_any (s : ByteArray) (k : Nat) (w : World) (hs : s.size ≤ 1000000000) (hk : k < s.size) :
    Calls Tryz.prog 184 #[.string s, .int .i64 k] w fun e w' => e = .returned (.tuple #[.int .i64 (posN (qPos s (k + 1))), .bool (posOk (qPos s (k + 1)))]) ∧ w = w' := by
  obtain ⟨R, hR⟩ : ∃ R, qPos s (k + 1) = R := ⟨_, rfl⟩
  rw [hR]
  have HR := Lib.hid hR
  clear hR
  go_enter Tryz.func184, Tryz.ntmps184
  go_wp2
  go_loop [6] (fun i => ∃ m : Nat, k + 1 ≤ m ∧ m ≤ s.size + 1 ∧ i = .int .i64 m ∧ Hid (qPos s m = R)) (fun i => s.size + 1 - (intOf i).toNat)
  case atStart => exact ⟨k + 1, Nat.le_refl _, by omega, by go_num, HR⟩
  case round =>
    clear HR
    obtain ⟨m, hm, hm2, rfl, hf⟩ := hrel
    by_cases hlt : m < s.size
    · by_cases e1 : ((s[m].toNat : Int) == 34) = true
      · have HF : Hid (R = some (m + 1)) := hf.out.symm.trans (qPos_close s m hlt (byte_eq (n := 34) (by omega) e1))
        clear hf
        go_wp2
        go_ret2
        exact ⟨by rw [HF.out]; rfl, rfl⟩
      · have e1' : ((s[m].toNat : Int) == 34) = false := by simpa using e1
        clear e1
        by_cases e2 : ((s[m].toNat : Int) == 92) = true
        · have HF : Hid (qPos s (m + 2) = R) := (qPos_esc s m hlt (byte_eq (n := 92) (by omega) e2)).symm.trans hf.out
          clear hf
          go_wp2
          go_round
          case rel => exact ⟨m + 2, by omega, by omega, by go_num, HF⟩
          case measure => simp [intOf]; omega
        · have e2' : ((s[m].toNat : Int) == 92) = false := by simpa using e2
          have HF : Hid (qPos s (m + 1) = R) := (qPos_in s m hlt (byte_ne (n := 34) (by omega) e1') (byte_ne (n := 92) (by omega) e2')).symm.trans hf.out
          clear hf e2
          go_wp2
          go_round
          case rel => exact ⟨m + 1, by omega, by omega, by go_num, HF⟩
          case measure => simp [intOf]; omega
    · have HF : Hid (R = none) := hf.out.symm.trans (qPos_none s m (by omega))
      clear hf
      go_wp2
      go_ret2
      exact ⟨by rw [HF.out]; rfl, rfl⟩

theorem elementEnd_any (s : ByteArray) (k : Nat) (w : World) (hs : s.size ≤ 1000000000) (hk : k ≤ s.size) :
    Calls Tryz.prog 173 #[.string s, .int .i64 k] w fun e w' => e = .returned (.tuple #[.int .i64 (posN (ePos s k)), .bool (posOk (ePos s k))]) ∧ w = w' := by
  obtain ⟨R, hR⟩ : ∃ R, ePos s k = R := ⟨_, rfl⟩
  rw [hR]
  have HR := Lib.hid hR
  clear hR
  go_enter Tryz.func173, Tryz.ntmps173
  go_wp2
  go_loop [6] (fun i => ∃ m : Nat, k ≤ m ∧ m ≤ s.size ∧ i = .int .i64 m ∧ Hid (ePos s m = R)) (fun i => s.size + 1 - (intOf i).toNat)
  case atStart => exact ⟨k, Nat.le_refl _, by omega, by go_num, HR⟩
  case round =>
    clear HR
    obtain ⟨m, hm, hm2, rfl, hf⟩ := hrel
    by_cases hlt : m < s.size
    · by_cases e1 : ((s[m].toNat : Int) == 44) = true
      · have HF : Hid (R = some m) := hf.out.symm.trans (ePos_comma s m hlt (byte_eq (n := 44) (by omega) e1))
        clear hf
        go_wp2
        go_ret2
        exact ⟨by rw [HF.out]; rfl, rfl⟩
      · have e1' : ((s[m].toNat : Int) == 44) = false := by simpa using e1
        clear e1
        by_cases e2 : ((s[m].toNat : Int) == 34) = true
        · have HF : Hid ((qPos s (m + 1)).bind (ePos s) = R) := (ePos_open s m hlt (byte_eq (n := 34) (by omega) e2)).symm.trans hf.out
          clear hf
          cases hq : qPos s (m + 1) with
          | none =>
            have HN : Hid (R = none) := by
              have := HF.out
              rw [hq] at this
              exact this.symm
            have HQ := Lib.hid hq
            clear hq HF
            go_wp2_with (go_at_call 184; refine (quotedEnd_any s m _ hs hlt).mono ?_; rintro e w' ⟨he, rfl⟩; rw [HQ.out] at he; subst he)
            go_ret2
            exact ⟨by rw [HN.out]; rfl, rfl⟩
          | some e0 =>
            have HN : Hid (ePos s e0 = R) := by
              have := HF.out
              rw [hq] at this
              exact this
            have hle := qPos_le s (m + 1) e0 hq
            have HQ := Lib.hid hq
            clear hq HF
            go_wp2_with (go_at_call 184; refine (quotedEnd_any s m _ hs hlt).mono ?_; rintro e w' ⟨he, rfl⟩; rw [HQ.out, pos_some] at he; subst he)
            go_round
            case rel => exact ⟨e0, by omega, by omega, by go_num, HN⟩
            case measure => simp [intOf]; omega
        · have e2' : ((s[m].toNat : Int) == 34) = false := by simpa using e2
          have HF : Hid (ePos s (m + 1) = R) := (ePos_out s m hlt (byte_ne (n := 34) (by omega) e2') (byte_ne (n := 44) (by omega) e1')).symm.trans hf.out
          clear hf e2
          go_wp2
          go_round
          case rel => exact ⟨m + 1, by omega, by omega, by go_num, HF⟩
          case measure => simp [intOf]; omega
    · have HF : Hid (R = some m) := hf.out.symm.trans (ePos_end s m (by omega))
      clear hf
      go_wp2
      go_ret2
      exact ⟨by rw [HF.out]; rfl, rfl⟩

theorem elements_any (s : ByteArray) (w : World) :
    Calls Tryz.prog 162 #[.string s] w fun e w' => e = .returned (.func (.func 172) #[] #[.pointer (some ⟨w.heap.size + 1, 0, none⟩), .pointer (some ⟨w.heap.size, 0, none⟩)]) ∧
      (w.alloc (.cells #[.string s] 9)).alloc (.cells #[.int .i64 0] 3) = w' := by
  have hmf : ∀ (fn : Fn) (first cap : Array Value) (w : World), (Instr.makeFunc fn first cap).run Tryz.prog w = .ok (.func fn first cap) w := fun _ _ _ _ => rfl
  go_enter Tryz.func162, Tryz.ntmps162
  go_wp2
  go_ret
  exact ⟨rfl, rfl⟩

/-- The closure behind the list's last element. -/
theorem next_end (s : ByteArray) (w : World) (P Q k : Nat) (hp : w.cell? ⟨P, 0, none⟩ = some (.string s)) (hq : w.cell? ⟨Q, 0, none⟩ = some (.int .i64 k)) (hk : s.size ≤ k) :
    Calls Tryz.prog 172 #[.pointer (some ⟨Q, 0, none⟩), .pointer (some ⟨P, 0, none⟩)] w fun e w' => e = .returned (.tuple #[.string ⟨#[]⟩, .bool false, .int .i64 0]) ∧ w = w' := by
  go_enter Tryz.func172, Tryz.ntmps172
  go_wp2_with fail
  go_ret3
  exact ⟨rfl, rfl⟩
/-- The closure at a quoted part that isn't ended. -/
theorem next_none (s : ByteArray) (w : World) (hs : s.size ≤ 1000000000) (P Q k : Nat) (hp : w.cell? ⟨P, 0, none⟩ = some (.string s)) (hq : w.cell? ⟨Q, 0, none⟩ = some (.int .i64 k)) (hk : k < s.size) (hn : ePos s k = none) :
    Calls Tryz.prog 172 #[.pointer (some ⟨Q, 0, none⟩), .pointer (some ⟨P, 0, none⟩)] w fun e w' => e = .returned (.tuple #[.string ⟨#[]⟩, .bool false, .int .i64 5]) ∧ w = w' := by
  have HN := Lib.hid hn
  clear hn
  go_enter Tryz.func172, Tryz.ntmps172
  go_wp2_with (go_at_call 173; refine (elementEnd_any s k _ hs (by omega)).mono ?_; rintro e w' ⟨he, rfl⟩; rw [HN.out] at he; subst he)
  go_ret3
  exact ⟨rfl, rfl⟩
/-- The closure at an element. -/
theorem next_some (s : ByteArray) (w : World) (hs : s.size ≤ 1000000000) (P Q k m : Nat) (hp : w.cell? ⟨P, 0, none⟩ = some (.string s)) (hq : w.cell? ⟨Q, 0, none⟩ = some (.int .i64 k)) (hfr : w.frozen? ⟨Q, 0, none⟩ = false) (hQ : Q < w.heap.size) (hk : k < s.size) (hn : ePos s k = some m) :
    Calls Tryz.prog 172 #[.pointer (some ⟨Q, 0, none⟩), .pointer (some ⟨P, 0, none⟩)] w fun e w' => e = .returned (.tuple #[.string (mkS (trimL (piece s k m))), .bool true, .int .i64 0]) ∧
      ∃ w1, Below w.heap.size w w1 ∧ w1.setCell ⟨Q, 0, none⟩ (.int .i64 ((m : Int) + 1)) = w' := by
  have hle := ePos_le s k m hn (by omega)
  have hx1 : (k : Int) ≤ (m : Int) := by omega
  have hx2 : (m : Int) ≤ (s.size : Int) := by omega
  have HN := Lib.hid hn
  have hT : Hid ((s.extract k m).data.toList = piece s k m) := by
    show _ = _
    rw [piece_ext]; rfl
  clear hn
  go_enter Tryz.func172, Tryz.ntmps172
  go_wp2_with (go_at_call 173; refine (elementEnd_any s k _ hs (by omega)).mono ?_; rintro e w' ⟨he, rfl⟩; rw [HN.out, pos_some] at he; subst he)
  refine (trim_any (s.extract k m) _ ?hsz).mono ?_
  case hsz => unfold maxLen; simp; omega
  rintro e w1 ⟨he, hb1⟩
  rw [hT.out] at he
  subst he
  have hq1 := (hb1.cell (p := ⟨Q, 0, none⟩) hQ).trans hq
  have hf1 := (hb1.frozen (p := ⟨Q, 0, none⟩) hQ).trans hfr
  obtain ⟨X, hX⟩ : ∃ X, X = mkS (trimL (piece s k m)) := ⟨_, rfl⟩
  rw [← hX]
  have HX := Lib.hid hX
  clear hX
  go_wp2
  go_ret3
  exact ⟨by rw [HX.out]; rfl, w1, hb1, rfl⟩

end Go.Proofs.YtjcomlklmfeimaaGreatDoor
end

/-
  Contracts of the reference's version, Request (layer 10).
-/
section
namespace Go.Proofs.YtjcomlklmfeimaaGreatDoor
open Go.RowKit

theorem r_version (s : ByteArray) (w : World) :
    Calls Tryz.prog 71 #[.string s] w fun e w' => e = .returned (.int .i64 (verI s)) ∧ w = w' := by
  have both : ∀ t : Bool, t = true ∨ t = false := fun t => by cases t <;> simp
  rcases both (s.toList == ht0) with h | h
  · have HV : Hid (verI s = 0) := by show _ = _; unfold verI; rw [if_pos h]
    unfold ht0 at h
    go_enter Tryz.func71, Tryz.ntmps71
    go_wp2_with fail
    go_ret
    exact ⟨by rw [HV.out]; rfl, rfl⟩
  · rcases both (s.toList == ht1) with g | g
    · have HV : Hid (verI s = 1) := by show _ = _; unfold verI; rw [if_neg (by rw [h]; simp), if_pos g]
      unfold ht0 at h
      unfold ht1 at g
      go_enter Tryz.func71, Tryz.ntmps71
      go_wp2_with fail
      go_ret
      exact ⟨by rw [HV.out]; rfl, rfl⟩
    · have HV : Hid (verI s = -1) := by show _ = _; unfold verI; rw [if_neg (by rw [h]; simp), if_neg (by rw [g]; simp)]
      unfold ht0 at h
      unfold ht1 at g
      go_enter Tryz.func71, Tryz.ntmps71
      go_wp2_with fail
      go_ret
      exact ⟨by rw [HV.out]; rfl, rfl⟩

set_option maxHeartbeats 4000000 in
set_option maxRecDepth 100000 in
theorem r_request (s : ByteArray) (w : World) (hs : s.size ≤ maxLen) :
    Calls Tryz.prog 35 #[.string s] w fun e w' => e = .returned (.tuple #[.string (rqA s), .string (rqB s), .int .i64 (rqV s), .int .i64 (rqE s)]) ∧ Below w.heap.size w w' := by
  by_cases hl : 8192 < s.size
  · have HR := Lib.hid (rq_long hl)
    have hl' : (8192 : Int) < (s.size : Int) := by omega
    clear hl
    go_enter Tryz.func35, Tryz.ntmps35
    go_wp2_with fail
    (try simp only [Exit.inBlock, Exit.then]); refine bodyPost_ret (results_tmp4 rfl _ _ _) rfl ?_
    exact ⟨by rw [HR.out.1, HR.out.2.1, HR.out.2.2.1, HR.out.2.2.2]; rfl, Below.refl _ _⟩
  · have hl' : ¬ (8192 : Int) < (s.size : Int) := by omega
    have hZ : (cutZ s 32).size ≤ maxLen := by
      refine Nat.le_trans ?_ hs
      unfold cutZ
      split
      · exact Nat.zero_le _
      · rw [ByteArray.size_extract]; omega
    have hM : (rqM s).size ≤ maxLen := by
      refine Nat.le_trans ?_ hs
      unfold rqM cutA
      split
      · exact Nat.le_refl _
      · rw [ByteArray.size_extract]; omega
    have hT : (rqT s).size ≤ 8192 := by
      have h1 : (rqT s).size ≤ (cutZ s 32).size := by
        unfold rqT cutA
        split
        · exact Nat.le_refl _
        · rw [ByteArray.size_extract]; omega
      have h2 : (cutZ s 32).size ≤ s.size := by
        unfold cutZ
        split
        · exact Nat.zero_le _
        · rw [ByteArray.size_extract]; omega
      omega
    have c1 := fun W => r_cut s 32 W hs (by decide) (by decide)
    have c2 := fun W => r_cut (cutZ s 32) 32 W hZ (by decide) (by decide)
    have c3 := fun W => r_version (rqL s) W
    have c4 := fun W => r_isToken (rqM s) W hM
    have hno := fun h => rq_no (s := s) hl h
    have hye := fun h => rq_yes (s := s) hl h
    have hO : rqO s = (((tokS (rqM s) && !(rqT s).toList.isEmpty) && decide (0 ≤ verI (rqL s))) && allB visB (rqT s).data.toList) := rfl
    have t4 : (!(rqM s).toList.isEmpty && allB tokB (rqM s).data.toList) = tokS (rqM s) := rfl
    rw [t4] at c4
    have e1 : cutA s 32 = rqM s := rfl
    have e2 : cutA (cutZ s 32) 32 = rqT s := rfl
    have e3 : cutZ (cutZ s 32) 32 = rqL s := rfl
    rw [e1] at c1
    rw [e2, e3] at c2
    clear e1 e2 e3 t4
    generalize rqO s = O at *
    generalize rqA s = RA at *
    generalize rqB s = RB at *
    generalize rqV s = RV at *
    generalize rqE s = RE at *
    generalize rqM s = M at *
    generalize rqT s = T at *
    generalize rqL s = L at *
    generalize cutZ s 32 = Z at *
    generalize cutOk s 32 = k1 at *
    generalize cutOk Z 32 = k2 at *
    generalize verI L = v at *
    generalize tokS M = tk at *
    have C1 := Lib.hid c1
    have C2 := Lib.hid c2
    have C3 := Lib.hid c3
    have C4 := Lib.hid c4
    clear c1 c2 c3 c4 hZ hM hl
    cases tk with
    | false =>
      have HR := Lib.hid (hno (by rw [hO]; rfl))
      clear hno hye hO
      go_enter Tryz.func35, Tryz.ntmps35
      go_wp2_with fail
      refine (C1.out _).mono ?_
      rintro e w1 ⟨rfl, hb1⟩
      have HB1 := Lib.hid hb1
      clear hb1
      go_wp2_with fail
      refine (C2.out _).mono ?_
      rintro e w2 ⟨rfl, hb2⟩
      have HB2 := Lib.hid (below_then HB1.out hb2)
      clear hb2
      go_wp2_with fail
      refine (C3.out _).mono ?_
      rintro e w3 ⟨rfl, rfl⟩
      go_wp2_with fail
      refine (C4.out _).mono ?_
      rintro e w3 ⟨rfl, rfl⟩
      go_wp2_with fail
      (try simp only [Exit.inBlock, Exit.then]); refine bodyPost_ret (results_tmp4 rfl _ _ _) rfl ?_
      exact ⟨by rw [HR.out.1, HR.out.2.1, HR.out.2.2.1, HR.out.2.2.2]; rfl, HB2.out⟩
    | true =>
      by_cases hT0 : T.size = 0
      · have hem := nil_str hT0
        have HR := Lib.hid (hno (by rw [hO, hem]; rfl))
        clear hno hye hO hT0
        go_enter Tryz.func35, Tryz.ntmps35
        go_wp2_with fail
        refine (C1.out _).mono ?_
        rintro e w1 ⟨rfl, hb1⟩
        have HB1 := Lib.hid hb1
        clear hb1
        go_wp2_with fail
        refine (C2.out _).mono ?_
        rintro e w2 ⟨rfl, hb2⟩
        have HB2 := Lib.hid (below_then HB1.out hb2)
        clear hb2
        go_wp2_with fail
        refine (C3.out _).mono ?_
        rintro e w3 ⟨rfl, rfl⟩
        go_wp2_with fail
        refine (C4.out _).mono ?_
        rintro e w3 ⟨rfl, rfl⟩
        go_wp2_with fail
        (try simp only [Exit.inBlock, Exit.then]); refine bodyPost_ret (results_tmp4 rfl _ _ _) rfl ?_
        exact ⟨by rw [HR.out.1, HR.out.2.1, HR.out.2.2.1, HR.out.2.2.2]; rfl, HB2.out⟩
      · have hem := non_str hT0
        by_cases hv : v < 0
        · have HR := Lib.hid (hno (by rw [hO, hem, decide_eq_false (by omega)]; rfl))
          clear hno hye hO hT0
          go_enter Tryz.func35, Tryz.ntmps35
          go_wp2_with fail
          refine (C1.out _).mono ?_
          rintro e w1 ⟨rfl, hb1⟩
          have HB1 := Lib.hid hb1
          clear hb1
          go_wp2_with fail
          refine (C2.out _).mono ?_
          rintro e w2 ⟨rfl, hb2⟩
          have HB2 := Lib.hid (below_then HB1.out hb2)
          clear hb2
          go_wp2_with fail
          refine (C3.out _).mono ?_
          rintro e w3 ⟨rfl, rfl⟩
          go_wp2_with fail
          refine (C4.out _).mono ?_
          rintro e w3 ⟨rfl, rfl⟩
          go_wp2_with fail
          (try simp only [Exit.inBlock, Exit.then]); refine bodyPost_ret (results_tmp4 rfl _ _ _) rfl ?_
          exact ⟨by rw [HR.out.1, HR.out.2.1, HR.out.2.2.1, HR.out.2.2.2]; rfl, HB2.out⟩
        · have hO2 : O = allB visB T.data.toList := by rw [hO, hem, decide_eq_true (by omega)]; simp
          have HNO := Lib.hid hno
          have HYE := Lib.hid hye
          have HO2 := Lib.hid hO2
          clear hno hye hO hO2 hT0
          go_enter Tryz.func35, Tryz.ntmps35
          go_wp2_with fail
          refine (C1.out _).mono ?_
          rintro e w1 ⟨rfl, hb1⟩
          have HB1 := Lib.hid hb1
          clear hb1
          go_wp2_with fail
          refine (C2.out _).mono ?_
          rintro e w2 ⟨rfl, hb2⟩
          have HB2 := Lib.hid (below_then HB1.out hb2)
          clear hb2
          go_wp2_with fail
          refine (C3.out _).mono ?_
          rintro e w3 ⟨rfl, rfl⟩
          go_wp2_with fail
          refine (C4.out _).mono ?_
          rintro e w3 ⟨rfl, rfl⟩
          go_wp2_with fail
          go_loop [13] (fun i => ∃ k : Nat, k ≤ T.size ∧ i = .int .i64 k ∧ Hid (allB visB (T.data.toList.take k) = true)) (fun i => T.size - (intOf i).toNat)
          case atStart => exact ⟨0, Nat.zero_le _, rfl, rfl⟩
          case round =>
            obtain ⟨k, hk, rfl, hf⟩ := hrel
            by_cases hlt : k < T.size
            · have hbd := byte_wf T[k]
              have hi0 : (0 : Int) ≤ (k : Int) := by omega
              have hi1 : (k : Int) < (T.size : Int) := by omega
              have HA := Lib.hid (allB_take visB T k hlt)
              have HF : Hid (visB (T[k].toNat : Int) = false → allB visB T.data.toList = false) := fun h => allB_false visB T k hlt h
              by_cases h1 : (T[k].toNat : Int) < 33
              · have HR := Lib.hid (HNO.out (by rw [HO2.out]; exact HF.out (by unfold visB; rw [decide_eq_false (by omega)]; rfl)))
                clear hf HA HF
                go_wp2_with fail
                (try simp only [Exit.inBlock, Exit.then]); refine bodyPost_ret (results_tmp4 rfl _ _ _) rfl ?_
                exact ⟨by rw [HR.out.1, HR.out.2.1, HR.out.2.2.1, HR.out.2.2.2]; rfl, HB2.out⟩
              · by_cases h2 : (126 : Int) < (T[k].toNat : Int)
                · have HR := Lib.hid (HNO.out (by rw [HO2.out]; exact HF.out (by unfold visB; rw [decide_eq_false (p := (T[k].toNat : Int) ≤ 126) (by omega), Bool.and_false])))
                  clear hf HA HF
                  go_wp2_with fail
                  (try simp only [Exit.inBlock, Exit.then]); refine bodyPost_ret (results_tmp4 rfl _ _ _) rfl ?_
                  exact ⟨by rw [HR.out.1, HR.out.2.1, HR.out.2.2.1, HR.out.2.2.2]; rfl, HB2.out⟩
                · have HR : Hid (allB visB (T.data.toList.take (k + 1)) = true) := by
                    show _ = _
                    rw [HA.out, hf.out]
                    unfold visB
                    rw [decide_eq_true (by omega), decide_eq_true (by omega)]; rfl
                  clear hf HA HF
                  go_wp2_with fail
                  go_round
                  case rel => exact ⟨k + 1, by omega, by go_num, HR⟩
                  case measure => simp [intOf]; omega
            · have HR := Lib.hid (HYE.out (by rw [HO2.out]; exact allB_full visB T k (by omega) hf.out))
              clear hf
              go_wp2_with fail
              (try simp only [Exit.inBlock, Exit.then]); refine bodyPost_ret (results_tmp4 rfl _ _ _) rfl ?_
              exact ⟨by rw [HR.out.1, HR.out.2.1, HR.out.2.2.1, HR.out.2.2.2]; rfl, HB2.out⟩

end Go.Proofs.YtjcomlklmfeimaaGreatDoor
end
