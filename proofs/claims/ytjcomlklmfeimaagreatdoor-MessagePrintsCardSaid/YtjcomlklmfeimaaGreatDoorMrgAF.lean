/-
  Texts that the laws of this seat lean on, one behind the other.
-/
import Derived.Test.YtjcomlklmfeimaaGreatDoorMrgB
import Derived.Test.YtjcomlklmfeimaaGreatDoorMrgU
import Derived.Test.YtjcomlklmfeimaaGreatDoorMrgG
import Derived.Test.YtjcomlklmfeimaaGreatDoorMrgF
import Derived.Test.YtjcomlklmfeimaaGreatDoorMrgH
import Derived.Test.YtjcomlklmfeimaaGreatDoorMrgAD
import Derived.Test.YtjcomlklmfeimaaGreatDoorMrgQ
import Derived.Test.YtjcomlklmfeimaaGreatDoorMrgAE
import Derived.Test.YtjcomlklmfeimaaGreatDoorMrgAA
import Derived.Test.YtjcomlklmfeimaaGreatDoorMrgD
/-
  Contracts of package line: parts, version, readVersion, readCode, shown, Request, Status.
-/
section
namespace Go.Proofs.YtjcomlklmfeimaaGreatDoor
open Go.RowKit

def safVs : List Value := [.string ⟨#[71, 69, 84]⟩, .string ⟨#[72, 69, 65, 68]⟩, .string ⟨#[79, 80, 84, 73, 79, 78, 83]⟩, .string ⟨#[84, 82, 65, 67, 69]⟩]
def reaVs : List Value := [.int .i64 200, .string ⟨#[79, 75]⟩, .int .i64 304, .string ⟨#[78, 111, 116, 32, 77, 111, 100, 105, 102, 105, 101, 100]⟩, .int .i64 400, .string ⟨#[66, 97, 100, 32, 82, 101, 113, 117, 101, 115, 116]⟩, .int .i64 502, .string ⟨#[66, 97, 100, 32, 71, 97, 116, 101, 119, 97, 121]⟩, .int .i64 504, .string ⟨#[71, 97, 116, 101, 119, 97, 121, 32, 84, 105, 109, 101, 111, 117, 116]⟩]
/-- The package's tables, and the library's. -/
structure LinTabs (w : World) : Prop where
  pow : Pow10 w
theorem LinTabs.kept {w w' : World} (h : LinTabs w) (hb : Below w.heap.size w w') : LinTabs w' :=
  ⟨tab_below h.pow hb⟩

theorem cutZ_size (s : ByteArray) : (cutZ s 32).size ≤ s.size := by
  unfold cutZ
  split
  · exact Nat.zero_le _
  · rw [ByteArray.size_extract]; omega
theorem cutA_size (s : ByteArray) : (cutA s 32).size ≤ s.size := by
  unfold cutA
  split
  · exact Nat.le_refl _
  · rw [ByteArray.size_extract]; omega

theorem parts_any (s : ByteArray) (w : World) (hs : s.size ≤ maxLen) :
    Calls Tryz.prog 61 #[.string s] w fun e w' => e = .returned (.tuple #[.string (ptA s), .string (ptB s), .string (ptC s), .bool (ptK s)]) ∧ Below w.heap.size w w' := by
  have C1 := Lib.hid (fun W => cut_any s 32 W hs (by decide) (by decide))
  have C2 := Lib.hid (fun W => cut_any (cutZ s 32) 32 W (Nat.le_trans (cutZ_size s) hs) (by decide) (by decide))
  unfold ptA ptB ptC ptK
  clear hs
  generalize cutA s 32 = A at *
  generalize cutZ s 32 = Z at *
  generalize cutA Z 32 = B at *
  generalize cutZ Z 32 = C at *
  generalize cutOk s 32 = k at *
  generalize cutOk Z 32 = j at *
  go_enter Tryz.func61, Tryz.ntmps61
  go_wp2_with fail
  refine (C1.out _).mono ?_
  rintro e w1 ⟨rfl, hb1⟩
  go_wp2_with fail
  refine (C2.out _).mono ?_
  rintro e w2 ⟨rfl, hb2⟩
  go_wp2_with fail
  (try simp only [Exit.inBlock, Exit.then]); refine bodyPost_ret (results_tmp4 rfl _ _ _) rfl ?_
  exact ⟨rfl, below_then hb1 hb2⟩

theorem version_any (n : Int) (h0 : -9223372036854775808 ≤ n) (h1 : n ≤ 9223372036854775807) (w : World) (ht : Pow10 w) :
    Calls Tryz.prog 86 #[.int .i64 n] w fun e w' => e = .returned (.string (verS n)) ∧ Below w.heap.size w w' := by
  have hlen := plainL_short n h0 h1
  have hsz : (mkS (plainL n)).size = (plainL n).length := mkS_size _
  have c := Lib.hid (plain_any n h0 h1 w ht)
  clear ht
  unfold verS
  rw [← hsz] at hlen
  clear hsz
  generalize mkS (plainL n) = P at *
  have hP : (P.size : Int) ≤ 1000000 := by omega
  clear hlen
  go_enter Tryz.func86, Tryz.ntmps86
  go_wp2_with fail
  refine c.out.mono ?_
  rintro e w' ⟨rfl, hb⟩
  go_wp2_with fail
  go_ret
  exact ⟨rfl, hb⟩

theorem ver_at (s : ByteArray) (n : Nat) (hn : n < 2) : (s.toList == (verS n).toList) = (verI s == (n : Int)) := by
  have e0 : (mkS ht0).toList = ht0 := by rw [Lib.toList_data, mkS_list]
  have e1 : (mkS ht1).toList = ht1 := by rw [Lib.toList_data, mkS_list]
  unfold verI
  match n, hn with
  | 0, _ =>
    rw [show ((0 : Nat) : Int) = 0 from rfl, verS_0, e0]
    cases h : s.toList == ht0
    · cases h2 : s.toList == ht1 <;> rfl
    · rfl
  | 1, _ =>
    rw [show ((1 : Nat) : Int) = 1 from rfl, verS_1, e1]
    cases h : s.toList == ht0
    · cases h2 : s.toList == ht1 <;> rfl
    · rw [eq_of_beq h]; decide

theorem readVersion_any (s : ByteArray) (w : World) (ht : Pow10 w) :
    Calls Tryz.prog 62 #[.string s] w fun e w' => e = .returned (.tuple #[.int .i64 (vrN s), .bool (vrB s)]) ∧ Below w.heap.size w w' := by
  have HC := Lib.hid (fun (n : Nat) (hn : n < 2) W (hW : Below w.heap.size w W) => version_any n (by omega) (by omega) W (tab_below ht hW))
  have HV := Lib.hid (ver_at s)
  have HI : Hid (verI s = 0 ∨ verI s = 1 ∨ verI s = -1) := by
    show _ ∨ _
    unfold verI
    split
    · exact .inl rfl
    · split
      · exact .inr (.inl rfl)
      · exact .inr (.inr rfl)
  clear ht
  have HN : Hid (vrN s = if vrB s then verI s else 0) := rfl
  have HB : Hid (vrB s = decide (0 ≤ verI s)) := rfl
  generalize vrN s = nn at *
  generalize vrB s = bb at *
  generalize verI s = v at *
  go_enter Tryz.func62, Tryz.ntmps62
  go_wp2_with fail
  go_loopw [5] (fun i wr => ∃ k : Nat, k ≤ 2 ∧ i = .int .i64 (k : Int) ∧ Hid ((0 < k → v ≠ 0) ∧ (1 < k → v ≠ 1)) ∧ Below w.heap.size w wr) (fun i _ => 2 - (intOf i).toNat)
  case atStart => exact ⟨0, Nat.zero_le _, rfl, ⟨fun h => by omega, fun h => by omega⟩, Below.refl _ _⟩
  case round =>
    obtain ⟨k, hk, rfl, hf, hbel⟩ := hrel
    by_cases hlt : k < 2
    · have HCk := Lib.hid (fun W hW => HC.out k hlt W hW)
      have hv := HV.out k hlt
      obtain ⟨S, hS⟩ : ∃ S, S = verS k := ⟨_, rfl⟩
      rw [← hS] at hv
      have HS := Lib.hid hS
      clear hS
      have hk2 : (k : Int) < 2 := by omega
      by_cases he : v = (k : Int)
      · have hv1 : (s.toList == S.toList) = true := by rw [hv, he]; simp
        have HR : Hid (nn = (k : Int) ∧ bb = true) := by
          have : bb = true := by rw [HB.out]; exact decide_eq_true (by omega)
          exact ⟨by rw [HN.out, if_pos this, he], this⟩
        clear hv he
        go_wp2_with fail
        refine (HCk.out _ hbel).mono ?_
        rintro e w1 ⟨he, hb1⟩
        rw [← HS.out] at he
        subst he
        go_wp2_with fail
        go_ret2
        exact ⟨by rw [HR.out.1, HR.out.2]; rfl, below_then hbel hb1⟩
      · have hv1 : (s.toList == S.toList) = false := by rw [hv]; simpa using he
        have HF : Hid ((0 < k + 1 → v ≠ 0) ∧ (1 < k + 1 → v ≠ 1)) := by
          obtain ⟨f1, f2⟩ := hf.out
          exact ⟨fun _ => by omega, fun h => by omega⟩
        clear hv he hf
        go_wp2_with fail
        refine (HCk.out _ hbel).mono ?_
        rintro e w1 ⟨he, hb1⟩
        rw [← HS.out] at he
        subst he
        go_wp2_with fail
        go_roundw
        case rel => exact ⟨k + 1, by omega, by go_num, HF, below_then hbel hb1⟩
        case measure => simp [intOf]; omega
    · have HR : Hid (nn = 0 ∧ bb = false) := by
        obtain ⟨f1, f2⟩ := hf.out
        have hv : v = -1 := by
          rcases HI.out with h | h | h
          · exact absurd h (f1 (by omega))
          · exact absurd h (f2 (by omega))
          · exact h
        have hb : bb = false := by rw [HB.out, hv]; rfl
        exact ⟨by rw [HN.out, hb]; rfl, hb⟩
      clear hf
      go_wp2_with fail
      go_ret2
      exact ⟨by rw [HR.out.1, HR.out.2]; rfl, hbel⟩

theorem readCode_any (s : ByteArray) (w : World) :
    Calls Tryz.prog 112 #[.string s] w fun e w' => e = .returned (.tuple #[.int .i64 (cdN s), .bool (cdB s)]) ∧ Below w.heap.size w w' := by
  have C := Lib.hid (Number_any s 599 w)
  have hD : cdB s = (((numE 10 18 599 s.data.toList == 0) && decide (s.size = 3)) && decide (100 ≤ numN 10 18 599 s.data.toList)) := rfl
  have hN : cdN s = if cdB s then numN 10 18 599 s.data.toList else 0 := rfl
  generalize cdB s = cb at *
  generalize cdN s = cn at *
  generalize numN 10 18 599 s.data.toList = n at *
  generalize numE 10 18 599 s.data.toList = E at *
  have no : cb = false → Hid (cn = 0 ∧ cb = false) := fun h => ⟨by rw [hN, h]; rfl, h⟩
  by_cases hE : E = 0
  · by_cases h3 : s.size = 3
    · by_cases hc : n < 100
      · have HR := no (by rw [hD, decide_eq_false (p := 100 ≤ n) (by omega), Bool.and_false])
        clear hD hN no
        subst hE
        have h3' : (s.size : Int) = 3 := by omega
        go_enter Tryz.func112, Tryz.ntmps112
        go_wp2_with fail
        refine C.out.mono ?_
        rintro e w' ⟨rfl, hb⟩
        go_wp2_with fail
        go_ret2
        exact ⟨by rw [HR.out.1, HR.out.2]; rfl, hb⟩
      · have hcb : cb = true := by rw [hD, hE, decide_eq_true h3, decide_eq_true (by omega)]; rfl
        have HR : Hid (cn = n ∧ cb = true) := ⟨by rw [hN, hcb]; rfl, hcb⟩
        clear hD hN no hcb
        subst hE
        have h3' : (s.size : Int) = 3 := by omega
        go_enter Tryz.func112, Tryz.ntmps112
        go_wp2_with fail
        refine C.out.mono ?_
        rintro e w' ⟨rfl, hb⟩
        go_wp2_with fail
        go_ret2
        exact ⟨by rw [HR.out.1, HR.out.2]; rfl, hb⟩
    · have HR := no (by rw [hD, decide_eq_false h3, Bool.and_false, Bool.false_and])
      clear hD hN no
      subst hE
      have h3' : ¬ (s.size : Int) = 3 := by omega
      go_enter Tryz.func112, Tryz.ntmps112
      go_wp2_with fail
      refine C.out.mono ?_
      rintro e w' ⟨rfl, hb⟩
      go_wp2_with fail
      go_ret2
      exact ⟨by rw [HR.out.1, HR.out.2]; rfl, hb⟩
  · have hE1 : (E == 0) = false := by simpa using hE
    have HR := no (by rw [hD, hE1]; rfl)
    clear hD hN no
    go_enter Tryz.func112, Tryz.ntmps112
    go_wp2_with fail
    refine C.out.mono ?_
    rintro e w' ⟨rfl, hb⟩
    go_wp2_with fail
    go_ret2
    exact ⟨by rw [HR.out.1, HR.out.2]; rfl, hb⟩

theorem shown_any (T : ByteArray) (hs : T.size ≤ 9000) (w : World) :
    Calls Tryz.prog 64 #[.string T] w fun e w' => e = .returned (.bool (shB T)) ∧ w = w' := by
  have HS : Hid (shB T = (allB visB T.data.toList && !T.toList.isEmpty)) := rfl
  go_enter Tryz.func64, Tryz.ntmps64
  go_wp2_with fail
  go_loop [6] (fun i => ∃ k : Nat, k ≤ T.size ∧ i = .int .i64 k ∧ Hid (allB visB (T.data.toList.take k) = true)) (fun i => T.size - (intOf i).toNat)
  case atStart => exact ⟨0, Nat.zero_le _, rfl, rfl⟩
  case round =>
    obtain ⟨k, hk, rfl, hf⟩ := hrel
    by_cases hlt : k < T.size
    · have hbd := byte_wf T[k]
      have hi0 : (0 : Int) ≤ (k : Int) := by omega
      have hi1 : (k : Int) < (T.size : Int) := by omega
      have HA := Lib.hid (allB_take visB T k hlt)
      have HF : Hid (visB (T[k].toNat : Int) = false → allB visB T.data.toList = false) := fun h => allB_false visB T k hlt h
      by_cases h1 : (T[k].toNat : Int) < 33
      · have HR : Hid (shB T = false) := by
          show _ = _
          rw [HS.out, HF.out (by unfold visB; rw [decide_eq_false (by omega)]; rfl)]; rfl
        clear hf HA HF
        go_wp2_with fail
        go_ret
        exact ⟨by rw [HR.out]; rfl, rfl⟩
      · by_cases h2 : (126 : Int) < (T[k].toNat : Int)
        · have HR : Hid (shB T = false) := by
            show _ = _
            rw [HS.out, HF.out (by unfold visB; rw [decide_eq_false (p := (T[k].toNat : Int) ≤ 126) (by omega), Bool.and_false])]; rfl
          clear hf HA HF
          go_wp2_with fail
          go_ret
          exact ⟨by rw [HR.out]; rfl, rfl⟩
        · have HR : Hid (allB visB (T.data.toList.take (k + 1)) = true) := by
            show _ = _
            rw [HA.out, hf.out]
            unfold visB
            rw [decide_eq_true (by omega), decide_eq_true (by omega)]; rfl
          clear hf HA HF
          go_wp2_with fail
          go_round
          case rel => exact ⟨k + 1, by omega, by go_num, HR⟩
          case measure => simp [intOf]; omega
    · have hR : shB T = !T.toList.isEmpty := by
        rw [HS.out, allB_full visB T k (by omega) hf.out, Bool.true_and]
      have hi1 : ¬ (k : Int) < (T.size : Int) := by omega
      clear hf
      by_cases hT0 : T.size = 0
      · have hem := nil_str hT0
        have hem' : (T.toList == []) = true := by simpa using hem
        have HR : Hid (shB T = false) := by show _ = _; rw [hR, hem]; rfl
        clear hR
        go_wp2_with fail
        go_ret
        exact ⟨by rw [HR.out]; rfl, rfl⟩
      · have hem := non_str hT0
        have hem' : (T.toList == []) = false := by simpa using hem
        have HR : Hid (shB T = true) := by show _ = _; rw [hR, hem]; rfl
        clear hR
        go_wp2_with fail
        go_ret
        exact ⟨by rw [HR.out]; rfl, rfl⟩

end Go.Proofs.YtjcomlklmfeimaaGreatDoor
end

/-
  Contracts of package line: Request, Status, PrintRequest, PrintStatus, Safe, Usual.
-/
section
namespace Go.Proofs.YtjcomlklmfeimaaGreatDoor
open Go.RowKit

set_option maxHeartbeats 4000000 in
set_option maxRecDepth 100000 in
theorem request_any (s : ByteArray) (w : World) (hs : s.size ≤ maxLen) (HT : LinTabs w) :
    Calls Tryz.prog 28 #[.string s] w fun e w' => e = .returned (.tuple #[.string (rqA s), .string (rqB s), .int .i64 (rqV s), .int .i64 (rqE s)]) ∧ Below w.heap.size w w' := by
  by_cases hl : 8192 < s.size
  · have HR := Lib.hid (rq_long hl)
    have hl' : (8192 : Int) < (s.size : Int) := by omega
    clear hl HT
    go_enter Tryz.func28, Tryz.ntmps28
    go_wp2_with fail
    (try simp only [Exit.inBlock, Exit.then]); refine bodyPost_ret (results_tmp4 rfl _ _ _) rfl ?_
    exact ⟨by rw [HR.out.1, HR.out.2.1, HR.out.2.2.1, HR.out.2.2.2]; rfl, Below.refl _ _⟩
  · have hl' : ¬ (8192 : Int) < (s.size : Int) := by omega
    have hA : (ptA s).size ≤ s.size := cutA_size s
    have hB : (ptB s).size ≤ s.size := Nat.le_trans (cutA_size _) (cutZ_size s)
    have hno := rq_ans_no (s := s) hl
    have hye := rq_ans_yes (s := s) hl
    have hQ : rqQ s = ((vrB (ptC s) && tokS (ptA s)) && shB (ptB s)) := rfl
    have HP := Lib.hid (HT.pow)
    have C1 := Lib.hid (fun W => parts_any s W hs)
    have C2 := Lib.hid (fun W (hW : Below w.heap.size w W) => readVersion_any (ptC s) W (tab_below HP.out hW))
    have c3 := fun W => isToken_any (ptA s) W (Nat.le_trans hA hs)
    have t3 : (!(ptA s).toList.isEmpty && allB tokB (ptA s).data.toList) = tokS (ptA s) := rfl
    rw [t3] at c3
    have C3 := Lib.hid c3
    have C4 := Lib.hid (fun W => shown_any (ptB s) (by omega) W)
    clear hA hB hl c3 t3 HT
    generalize rqQ s = Q at *
    generalize rqA s = RA at *
    generalize rqB s = RB at *
    generalize rqV s = RV at *
    generalize rqE s = RE at *
    generalize ptA s = A at *
    generalize ptB s = B at *
    generalize ptC s = Z at *
    generalize ptK s = K at *
    generalize vrN Z = v at *
    generalize vrB Z = vb at *
    generalize tokS A = tk at *
    generalize shB B = sh at *
    cases vb with
    | false =>
      have HR := Lib.hid (hno (by rw [hQ]; rfl))
      clear hno hye hQ
      go_enter Tryz.func28, Tryz.ntmps28
      go_wp2_with fail
      refine (C1.out _).mono ?_
      rintro e w1 ⟨rfl, hb1⟩
      have HB1 := Lib.hid hb1
      clear hb1
      go_wp2_with fail
      refine (C2.out _ HB1.out).mono ?_
      rintro e w2 ⟨rfl, hb2⟩
      have HB2 := Lib.hid (below_then HB1.out hb2)
      clear hb2
      go_wp2_with fail
      (try simp only [Exit.inBlock, Exit.then]); refine bodyPost_ret (results_tmp4 rfl _ _ _) rfl ?_
      exact ⟨by rw [HR.out.1, HR.out.2.1, HR.out.2.2.1, HR.out.2.2.2]; rfl, HB2.out⟩
    | true =>
      cases tk with
      | false =>
        have HR := Lib.hid (hno (by rw [hQ]; rfl))
        clear hno hye hQ
        go_enter Tryz.func28, Tryz.ntmps28
        go_wp2_with fail
        refine (C1.out _).mono ?_
        rintro e w1 ⟨rfl, hb1⟩
        have HB1 := Lib.hid hb1
        clear hb1
        go_wp2_with fail
        refine (C2.out _ HB1.out).mono ?_
        rintro e w2 ⟨rfl, hb2⟩
        have HB2 := Lib.hid (below_then HB1.out hb2)
        clear hb2
        go_wp2_with fail
        refine (C3.out _).mono ?_
        rintro e w3 ⟨rfl, hb3⟩
        have HB3 := Lib.hid (below_then HB2.out hb3)
        clear hb3
        go_wp2_with fail
        (try simp only [Exit.inBlock, Exit.then]); refine bodyPost_ret (results_tmp4 rfl _ _ _) rfl ?_
        exact ⟨by rw [HR.out.1, HR.out.2.1, HR.out.2.2.1, HR.out.2.2.2]; rfl, HB3.out⟩
      | true =>
        cases sh with
        | false =>
          have HR := Lib.hid (hno (by rw [hQ]; rfl))
          clear hno hye hQ
          go_enter Tryz.func28, Tryz.ntmps28
          go_wp2_with fail
          refine (C1.out _).mono ?_
          rintro e w1 ⟨rfl, hb1⟩
          have HB1 := Lib.hid hb1
          clear hb1
          go_wp2_with fail
          refine (C2.out _ HB1.out).mono ?_
          rintro e w2 ⟨rfl, hb2⟩
          have HB2 := Lib.hid (below_then HB1.out hb2)
          clear hb2
          go_wp2_with fail
          refine (C3.out _).mono ?_
          rintro e w3 ⟨rfl, hb3⟩
          have HB3 := Lib.hid (below_then HB2.out hb3)
          clear hb3
          go_wp2_with fail
          refine (C4.out _).mono ?_
          rintro e w4 ⟨rfl, rfl⟩
          go_wp2_with fail
          (try simp only [Exit.inBlock, Exit.then]); refine bodyPost_ret (results_tmp4 rfl _ _ _) rfl ?_
          exact ⟨by rw [HR.out.1, HR.out.2.1, HR.out.2.2.1, HR.out.2.2.2]; rfl, HB3.out⟩
        | true =>
          have HR := Lib.hid (hye (by rw [hQ]; rfl))
          clear hno hye hQ
          go_enter Tryz.func28, Tryz.ntmps28
          go_wp2_with fail
          refine (C1.out _).mono ?_
          rintro e w1 ⟨rfl, hb1⟩
          have HB1 := Lib.hid hb1
          clear hb1
          go_wp2_with fail
          refine (C2.out _ HB1.out).mono ?_
          rintro e w2 ⟨rfl, hb2⟩
          have HB2 := Lib.hid (below_then HB1.out hb2)
          clear hb2
          go_wp2_with fail
          refine (C3.out _).mono ?_
          rintro e w3 ⟨rfl, hb3⟩
          have HB3 := Lib.hid (below_then HB2.out hb3)
          clear hb3
          go_wp2_with fail
          refine (C4.out _).mono ?_
          rintro e w4 ⟨rfl, rfl⟩
          go_wp2_with fail
          (try simp only [Exit.inBlock, Exit.then]); refine bodyPost_ret (results_tmp4 rfl _ _ _) rfl ?_
          exact ⟨by rw [HR.out.1, HR.out.2.1, HR.out.2.2.1, HR.out.2.2.2]; rfl, HB3.out⟩

set_option maxHeartbeats 4000000 in
set_option maxRecDepth 100000 in
theorem status_any (s : ByteArray) (w : World) (hs : s.size ≤ maxLen) (HT : LinTabs w) :
    Calls Tryz.prog 78 #[.string s] w fun e w' => e = .returned (.tuple #[.int .i64 (stN s), .string (stB s), .int .i64 (stV' s), .int .i64 (stE s)]) ∧ Below w.heap.size w w' := by
  by_cases hl : 8192 < s.size
  · have HR := Lib.hid (st_long hl)
    have hl' : (8192 : Int) < (s.size : Int) := by omega
    clear hl HT
    go_enter Tryz.func78, Tryz.ntmps78
    go_wp2_with fail
    (try simp only [Exit.inBlock, Exit.then]); refine bodyPost_ret (results_tmp4 rfl _ _ _) rfl ?_
    exact ⟨by rw [HR.out.1, HR.out.2.1, HR.out.2.2.1, HR.out.2.2.2]; rfl, Below.refl _ _⟩
  · have hl' : ¬ (8192 : Int) < (s.size : Int) := by omega
    have hC : (ptC s).size ≤ s.size := Nat.le_trans (cutZ_size _) (cutZ_size s)
    have hno := st_ans_no (s := s) hl
    have hye := st_ans_yes (s := s) hl
    have hQ : stQ s = (((ptK s && vrB (ptA s)) && cdB (ptB s)) && allB txtB (ptC s).data.toList) := rfl
    have HP := Lib.hid (HT.pow)
    have C1 := Lib.hid (fun W => parts_any s W hs)
    have C2 := Lib.hid (fun W (hW : Below w.heap.size w W) => readVersion_any (ptA s) W (tab_below HP.out hW))
    have C3 := Lib.hid (fun W => readCode_any (ptB s) W)
    have C4 := Lib.hid (fun W => isText_any (ptC s) W (Nat.le_trans hC hs))
    clear hC hl HT
    generalize stQ s = Q at *
    generalize stN s = RA at *
    generalize stB s = RB at *
    generalize stV' s = RV at *
    generalize stE s = RE at *
    generalize ptA s = A at *
    generalize ptB s = B at *
    generalize ptC s = Z at *
    generalize ptK s = K at *
    generalize vrN A = v at *
    generalize vrB A = vb at *
    generalize cdN B = c at *
    generalize cdB B = cb at *
    generalize allB txtB Z.data.toList = tx at *
    cases K with
    | false =>
      have HR := Lib.hid (hno (by rw [hQ]; rfl))
      clear hno hye hQ
      go_enter Tryz.func78, Tryz.ntmps78
      go_wp2_with fail
      refine (C1.out _).mono ?_
      rintro e w1 ⟨rfl, hb1⟩
      have HB1 := Lib.hid hb1
      clear hb1
      go_wp2_with fail
      refine (C2.out _ HB1.out).mono ?_
      rintro e w2 ⟨rfl, hb2⟩
      have HB2 := Lib.hid (below_then HB1.out hb2)
      clear hb2
      go_wp2_with fail
      refine (C3.out _).mono ?_
      rintro e w3 ⟨rfl, hb3⟩
      have HB3 := Lib.hid (below_then HB2.out hb3)
      clear hb3
      go_wp2_with fail
      (try simp only [Exit.inBlock, Exit.then]); refine bodyPost_ret (results_tmp4 rfl _ _ _) rfl ?_
      exact ⟨by rw [HR.out.1, HR.out.2.1, HR.out.2.2.1, HR.out.2.2.2]; rfl, HB3.out⟩
    | true =>
      cases vb with
      | false =>
        have HR := Lib.hid (hno (by rw [hQ]; rfl))
        clear hno hye hQ
        go_enter Tryz.func78, Tryz.ntmps78
        go_wp2_with fail
        refine (C1.out _).mono ?_
        rintro e w1 ⟨rfl, hb1⟩
        have HB1 := Lib.hid hb1
        clear hb1
        go_wp2_with fail
        refine (C2.out _ HB1.out).mono ?_
        rintro e w2 ⟨rfl, hb2⟩
        have HB2 := Lib.hid (below_then HB1.out hb2)
        clear hb2
        go_wp2_with fail
        refine (C3.out _).mono ?_
        rintro e w3 ⟨rfl, hb3⟩
        have HB3 := Lib.hid (below_then HB2.out hb3)
        clear hb3
        go_wp2_with fail
        (try simp only [Exit.inBlock, Exit.then]); refine bodyPost_ret (results_tmp4 rfl _ _ _) rfl ?_
        exact ⟨by rw [HR.out.1, HR.out.2.1, HR.out.2.2.1, HR.out.2.2.2]; rfl, HB3.out⟩
      | true =>
        cases cb with
        | false =>
          have HR := Lib.hid (hno (by rw [hQ]; rfl))
          clear hno hye hQ
          go_enter Tryz.func78, Tryz.ntmps78
          go_wp2_with fail
          refine (C1.out _).mono ?_
          rintro e w1 ⟨rfl, hb1⟩
          have HB1 := Lib.hid hb1
          clear hb1
          go_wp2_with fail
          refine (C2.out _ HB1.out).mono ?_
          rintro e w2 ⟨rfl, hb2⟩
          have HB2 := Lib.hid (below_then HB1.out hb2)
          clear hb2
          go_wp2_with fail
          refine (C3.out _).mono ?_
          rintro e w3 ⟨rfl, hb3⟩
          have HB3 := Lib.hid (below_then HB2.out hb3)
          clear hb3
          go_wp2_with fail
          (try simp only [Exit.inBlock, Exit.then]); refine bodyPost_ret (results_tmp4 rfl _ _ _) rfl ?_
          exact ⟨by rw [HR.out.1, HR.out.2.1, HR.out.2.2.1, HR.out.2.2.2]; rfl, HB3.out⟩
        | true =>
          cases tx with
          | false =>
            have HR := Lib.hid (hno (by rw [hQ]; rfl))
            clear hno hye hQ
            go_enter Tryz.func78, Tryz.ntmps78
            go_wp2_with fail
            refine (C1.out _).mono ?_
            rintro e w1 ⟨rfl, hb1⟩
            have HB1 := Lib.hid hb1
            clear hb1
            go_wp2_with fail
            refine (C2.out _ HB1.out).mono ?_
            rintro e w2 ⟨rfl, hb2⟩
            have HB2 := Lib.hid (below_then HB1.out hb2)
            clear hb2
            go_wp2_with fail
            refine (C3.out _).mono ?_
            rintro e w3 ⟨rfl, hb3⟩
            have HB3 := Lib.hid (below_then HB2.out hb3)
            clear hb3
            go_wp2_with fail
            refine (C4.out _).mono ?_
            rintro e w4 ⟨rfl, hb4⟩
            have HB4 := Lib.hid (below_then HB3.out hb4)
            clear hb4
            go_wp2_with fail
            (try simp only [Exit.inBlock, Exit.then]); refine bodyPost_ret (results_tmp4 rfl _ _ _) rfl ?_
            exact ⟨by rw [HR.out.1, HR.out.2.1, HR.out.2.2.1, HR.out.2.2.2]; rfl, HB4.out⟩
          | true =>
            have HR := Lib.hid (hye (by rw [hQ]; rfl))
            clear hno hye hQ
            go_enter Tryz.func78, Tryz.ntmps78
            go_wp2_with fail
            refine (C1.out _).mono ?_
            rintro e w1 ⟨rfl, hb1⟩
            have HB1 := Lib.hid hb1
            clear hb1
            go_wp2_with fail
            refine (C2.out _ HB1.out).mono ?_
            rintro e w2 ⟨rfl, hb2⟩
            have HB2 := Lib.hid (below_then HB1.out hb2)
            clear hb2
            go_wp2_with fail
            refine (C3.out _).mono ?_
            rintro e w3 ⟨rfl, hb3⟩
            have HB3 := Lib.hid (below_then HB2.out hb3)
            clear hb3
            go_wp2_with fail
            refine (C4.out _).mono ?_
            rintro e w4 ⟨rfl, hb4⟩
            have HB4 := Lib.hid (below_then HB3.out hb4)
            clear hb4
            go_wp2_with fail
            (try simp only [Exit.inBlock, Exit.then]); refine bodyPost_ret (results_tmp4 rfl _ _ _) rfl ?_
            exact ⟨by rw [HR.out.1, HR.out.2.1, HR.out.2.2.1, HR.out.2.2.2]; rfl, HB4.out⟩

/-- Three words joined. -/
theorem join_any3 (a b d : ByteArray) (ha : a.size ≤ 1000000) (hb : b.size ≤ 1000000) (hd : d.size ≤ 1000000) (w : World) (t : TypeId) :
    Calls Tryz.prog 85 #[.slice (some ⟨w.heap.size, 0, none⟩) 3 3] (w.alloc (.cells #[.string a, .string b, .string d] t)) fun e w' =>
      e = .returned (.string (mkS (Lib.join [a.data.toList, b.data.toList, d.data.toList] [32]))) ∧ Below w.heap.size w w' := by
  have hbel : Below w.heap.size w (w.alloc (.cells #[.string a, .string b, .string d] t)) := (Below.refl w.heap.size w).alloc (Nat.le_refl _) _
  have hcell : ∀ j x, [a, b, d][j]? = some x → (w.alloc (.cells #[.string a, .string b, .string d] t)).cell? ⟨w.heap.size, 0 + j, none⟩ = some (.string x) := fun j x hx => by
    rw [Nat.zero_add, cell_of_row _ _ _ _ _ _ (heap_alloc_new w _)]
    match j, hx with
    | 0, hx => cases hx; rfl
    | 1, hx => cases hx; rfl
    | 2, hx => cases hx; rfl
    | j + 3, hx => simp at hx
  have hsz : w.heap.size < (w.alloc (.cells #[.string a, .string b, .string d] t)).heap.size := by rw [World.size_alloc]; omega
  have ea := Lib.size_eq a
  have eb := Lib.size_eq b
  have ed := Lib.size_eq d
  generalize w.alloc (.cells #[.string a, .string b, .string d] t) = W at *
  have J := Tryz.strings_Join w.heap.size 0 3 [a, b, d] ⟨#[32]⟩ W hcell hsz (by simp) (Nat.le_refl 3) (by
    show (Lib.join [a.data.toList, b.data.toList, d.data.toList] [32]).length ≤ _
    rw [join_three]
    have hm : (9000000 : Nat) ≤ maxLen := by decide
    simp only [List.length_append, List.length_cons]
    omega)
  have J2 : Calls Tryz.prog 117 #[.slice (some ⟨w.heap.size, 0, none⟩) 3 3, .string ⟨#[32]⟩] W fun e w' => e = .returned (.string (mkS (Lib.join [a.data.toList, b.data.toList, d.data.toList] [32]))) ∧ Below W.heap.size W w' := J
  have HJ := Lib.hid J2
  have HB := Lib.hid hbel
  clear J J2 hbel hcell hsz ea eb ed
  generalize mkS (Lib.join [a.data.toList, b.data.toList, d.data.toList] [32]) = R at *
  go_enter Tryz.func85, Tryz.ntmps85
  go_wp2_with fail
  refine HJ.out.mono ?_
  rintro e w' ⟨rfl, hb⟩
  go_wp2_with fail
  go_ret
  exact ⟨rfl, below_then HB.out hb⟩

theorem verS_size (v : Int) (h0 : -9223372036854775808 ≤ v) (h1 : v ≤ 9223372036854775807) : (verS v).size ≤ 1000000 := by
  have hlen := plainL_short v h0 h1
  rw [Lib.size_eq, verS_list]
  simp only [List.length_append, List.length_cons, List.length_nil]
  omega

theorem printRequest_any (m t : ByteArray) (v : Int) (h0 : -9223372036854775808 ≤ v) (h1 : v ≤ 9223372036854775807) (hm : m.size ≤ 1000000) (ht : t.size ≤ 1000000) (w : World) (HT : LinTabs w) :
    Calls Tryz.prog 47 #[.string m, .string t, .int .i64 v] w fun e w' => e = .returned (.string (prqS m t v)) ∧ Below w.heap.size w w' := by
  have hv := verS_size v h0 h1
  have C1 := Lib.hid (version_any v h0 h1 w HT.pow)
  have C2 := Lib.hid (fun W => join_any3 m t (verS v) hm ht hv W 9)
  have HJ := Lib.hid (prq_join m t v)
  clear hv HT
  generalize verS v = V at *
  generalize prqS m t v = P at *
  go_enter Tryz.func47, Tryz.ntmps47
  go_wp2_with fail
  refine C1.out.mono ?_
  rintro e w1 ⟨rfl, hb1⟩
  have HB1 := Lib.hid hb1
  clear hb1
  go_wp2_with fail
  refine (C2.out _).mono ?_
  rintro e w2 ⟨he, hb2⟩
  rw [HJ.out] at he
  subst he
  go_wp2_with fail
  go_ret
  exact ⟨rfl, below_then HB1.out hb2⟩

theorem printStatus_any (c : Int) (r : ByteArray) (v : Int) (g0 : -9223372036854775808 ≤ c) (g1 : c ≤ 9223372036854775807) (h0 : -9223372036854775808 ≤ v) (h1 : v ≤ 9223372036854775807) (hr : r.size ≤ 1000000) (w : World) (HT : LinTabs w) :
    Calls Tryz.prog 52 #[.int .i64 c, .string r, .int .i64 v] w fun e w' => e = .returned (.string (pstS c r v)) ∧ Below w.heap.size w w' := by
  have hv := verS_size v h0 h1
  have hc : (mkS (plainL c)).size ≤ 1000000 := by
    have := plainL_short c g0 g1
    rw [mkS_size]; omega
  have HP := Lib.hid HT.pow
  have C1 := Lib.hid (version_any v h0 h1 w HT.pow)
  have C2 := Lib.hid (fun W (hW : Below w.heap.size w W) => plain_any c g0 g1 W (tab_below HP.out hW))
  have C3 := Lib.hid (fun W => join_any3 (verS v) (mkS (plainL c)) r hv hc hr W 9)
  have HJ := Lib.hid (pst_join c r v)
  clear hv hc HT HP
  generalize verS v = V at *
  generalize mkS (plainL c) = D at *
  generalize pstS c r v = P at *
  go_enter Tryz.func52, Tryz.ntmps52
  go_wp2_with fail
  refine C1.out.mono ?_
  rintro e w1 ⟨rfl, hb1⟩
  have HB1 := Lib.hid hb1
  clear hb1
  go_wp2_with fail
  refine (C2.out _ HB1.out).mono ?_
  rintro e w2 ⟨rfl, hb2⟩
  have HB2 := Lib.hid (below_then HB1.out hb2)
  clear hb2
  go_wp2_with fail
  refine (C3.out _).mono ?_
  rintro e w3 ⟨he, hb3⟩
  rw [HJ.out] at he
  subst he
  go_wp2_with fail
  go_ret
  exact ⟨rfl, below_then HB2.out hb3⟩

end Go.Proofs.YtjcomlklmfeimaaGreatDoor
end
