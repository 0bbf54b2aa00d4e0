/-
  Texts that the laws of this seat lean on, one behind the other.
-/
import Derived.Test.YtnembpklidcgoaaGreatDoorMrgO
import Derived.Test.YtnembpklidcgoaaGreatDoorMrgI
import Derived.Test.YtnembpklidcgoaaGreatDoorMrgJ
import Derived.Test.YtnembpklidcgoaaGreatDoorMrgK
/-
  Contracts of value and Param of package items.
-/
section
namespace Go.Proofs.YtnembpklidcgoaaGreatDoor
open Go.RowKit

def isTok (x : ByteArray) : Bool := !x.toList.isEmpty && allB tokB x.data.toList
def valO (z : ByteArray) : ByteArray := if isTok z then z else mkS (unqO z.data.toList)
def valE (z : ByteArray) : Int := if isTok z then 0 else unqE z.data.toList
def parE (s : ByteArray) : Int := if isTok (cutA s 61) then (if cutOk s 61 then valE (cutZ s 61) else 0) else 5
def parN (s : ByteArray) : ByteArray := if parE s = 0 then mkS (lowL (cutA s 61).data.toList) else ⟨#[]⟩
def parV (s : ByteArray) : ByteArray := if parE s = 0 ∧ cutOk s 61 = true then valO (cutZ s 61) else ⟨#[]⟩
def parH (s : ByteArray) : Bool := if parE s = 0 then cutOk s 61 else false
theorem unqE_two (l : List UInt8) : unqE l = 0 ∨ unqE l = 5 := by unfold unqE; split <;> simp
theorem valE_two (z : ByteArray) : valE z = 0 ∨ valE z = 5 := by unfold valE; split <;> simp [unqE_two]

theorem tok_any (s : ByteArray) (w : World) (hs : s.size ≤ maxLen) :
    Calls Tryz.prog 153 #[.string s] w fun e w' => e = .returned (.bool (isTok s)) ∧ Below w.heap.size w w' := isToken_any s w hs

theorem value_any (s : ByteArray) (w : World) (hs : s.size ≤ 100000000) :
    Calls Tryz.prog 155 #[.string s] w fun e w' => e = .returned (.tuple #[.string (valO s), .int .i64 (valE s)]) ∧ Below w.heap.size w w' := by
  rcases Bool.eq_false_or_eq_true (isTok s) with h | h
  · have HT := Lib.hid h
    have HO : Hid (valO s = s) := by show _ = _; simp [valO, h]
    have HE : Hid (valE s = 0) := by show _ = _; simp [valE, h]
    clear h
    go_enter Tryz.func155, Tryz.ntmps155
    go_wp2_with fail
    refine (tok_any s _ (by unfold maxLen; omega)).mono ?_
    rintro e w1 ⟨he, hb1⟩
    rw [HT.out] at he
    subst he
    go_wp2_with fail
    go_ret2
    exact ⟨by rw [HO.out, HE.out]; rfl, hb1⟩
  · have HT := Lib.hid h
    have HO : Hid (valO s = mkS (unqO s.data.toList)) := by show _ = _; simp [valO, h]
    have HE : Hid (valE s = unqE s.data.toList) := by show _ = _; simp [valE, h]
    clear h
    go_enter Tryz.func155, Tryz.ntmps155
    go_wp2_with fail
    refine (tok_any s _ (by unfold maxLen; omega)).mono ?_
    rintro e w1 ⟨he, hb1⟩
    rw [HT.out] at he
    subst he
    go_wp2_with fail
    refine (unquote_any s _ hs).mono ?_
    rintro e w2 ⟨he, hb2⟩
    rw [← HO.out, ← HE.out] at he
    obtain ⟨a, ha⟩ : ∃ a, a = valO s := ⟨_, rfl⟩
    obtain ⟨b, hb⟩ : ∃ b, b = valE s := ⟨_, rfl⟩
    rw [← ha, ← hb] at he
    have HA := Lib.hid ha
    have HB := Lib.hid hb
    clear ha hb
    subst he
    go_wp2_with fail
    go_ret2
    exact ⟨by rw [← HA.out, ← HB.out]; rfl, below_then hb1 hb2⟩

theorem cutA_le (s : ByteArray) (c : Int) : (cutA s c).size ≤ s.size := by
  unfold cutA
  split
  · exact Nat.le_refl _
  · rw [ByteArray.size_extract]; omega
theorem cutZ_le (s : ByteArray) (c : Int) : (cutZ s c).size ≤ s.size := by
  unfold cutZ
  split
  · exact Nat.zero_le _
  · rw [ByteArray.size_extract]; omega
theorem par_tok {s : ByteArray} (h : isTok (cutA s 61) = false) : parN s = ⟨#[]⟩ ∧ parV s = ⟨#[]⟩ ∧ parH s = false ∧ parE s = 5 := by
  have e : parE s = 5 := by simp [parE, h]
  simp [parN, parV, parH, e]
theorem par_bare {s : ByteArray} (h : isTok (cutA s 61) = true) (k : cutOk s 61 = false) : parN s = mkS (lowL (cutA s 61).data.toList) ∧ parV s = ⟨#[]⟩ ∧ parH s = false ∧ parE s = 0 := by
  have e : parE s = 0 := by simp [parE, h, k]
  simp [parN, parV, parH, e, k]
theorem par_bad {s : ByteArray} (h : isTok (cutA s 61) = true) (k : cutOk s 61 = true) (v : valE (cutZ s 61) = 5) : parN s = ⟨#[]⟩ ∧ parV s = ⟨#[]⟩ ∧ parH s = false ∧ parE s = 5 := by
  have e : parE s = 5 := by simp [parE, h, k, v]
  simp [parN, parV, parH, e]
theorem par_good {s : ByteArray} (h : isTok (cutA s 61) = true) (k : cutOk s 61 = true) (v : valE (cutZ s 61) = 0) : parN s = mkS (lowL (cutA s 61).data.toList) ∧ parV s = valO (cutZ s 61) ∧ parH s = true ∧ parE s = 0 := by
  have e : parE s = 0 := by simp [parE, h, k, v]
  simp [parN, parV, parH, e, k]

theorem param_any (s : ByteArray) (w : World) (hs : s.size ≤ 100000000) :
    Calls Tryz.prog 116 #[.string s] w fun e w' => e = .returned (.tuple #[.string (parN s), .string (parV s), .bool (parH s), .int .i64 (parE s)]) ∧ Below w.heap.size w w' := by
  have H1 := @par_tok s
  have H2 := @par_bare s
  have H3 := @par_bad s
  have H4 := @par_good s
  have ha := cutA_le s 61
  have hz := cutZ_le s 61
  have hcut := cut_any s 61 w (by unfold maxLen; omega) (by omega) (by omega)
  generalize parN s = N at *
  generalize parV s = V at *
  generalize parH s = H at *
  generalize parE s = E at *
  generalize cutA s 61 = a at *
  generalize cutZ s 61 = z at *
  generalize cutOk s 61 = b at *
  have HC := Lib.hid hcut
  clear hcut
  rcases Bool.eq_false_or_eq_true (isTok a) with h | h
  · have HT := Lib.hid h
    cases b with
    | false =>
      have HR := Lib.hid (H2 h rfl)
      clear H1 H2 H3 H4 h
      go_enter Tryz.func116, Tryz.ntmps116
      go_wp2_with fail
      refine HC.out.mono ?_
      rintro e w1 ⟨rfl, hb1⟩
      go_wp2_with fail
      refine (tok_any a _ (by unfold maxLen; omega)).mono ?_
      rintro e w2 ⟨he, hb2⟩
      rw [HT.out] at he
      subst he
      go_wp2_with fail
      refine (lower_any a _ (by unfold maxLen; omega)).mono ?_
      rintro e w3 ⟨rfl, hb3⟩
      go_wp2_with fail
      (try simp only [Exit.inBlock, Exit.then]); refine bodyPost_ret (results_tmp4 rfl _ _ _) rfl ?_
      exact ⟨by rw [HR.out.1, HR.out.2.1, HR.out.2.2.1, HR.out.2.2.2]; rfl, below_then (below_then hb1 hb2) hb3⟩
    | true =>
      rcases valE_two z with hv | hv
      · have HR := Lib.hid (H4 h rfl hv)
        have HV := Lib.hid hv
        clear H1 H2 H3 H4 h hv
        go_enter Tryz.func116, Tryz.ntmps116
        go_wp2_with fail
        refine HC.out.mono ?_
        rintro e w1 ⟨rfl, hb1⟩
        go_wp2_with fail
        refine (tok_any a _ (by unfold maxLen; omega)).mono ?_
        rintro e w2 ⟨he, hb2⟩
        rw [HT.out] at he
        subst he
        go_wp2_with fail
        refine (value_any z _ (by omega)).mono ?_
        rintro e w3 ⟨he, hb3⟩
        rw [HV.out, ← HR.out.2.1] at he
        subst he
        go_wp2_with fail
        refine (lower_any a _ (by unfold maxLen; omega)).mono ?_
        rintro e w4 ⟨rfl, hb4⟩
        go_wp2_with fail
        (try simp only [Exit.inBlock, Exit.then]); refine bodyPost_ret (results_tmp4 rfl _ _ _) rfl ?_
        exact ⟨by rw [HR.out.1, HR.out.2.2.1, HR.out.2.2.2]; rfl, below_then (below_then (below_then hb1 hb2) hb3) hb4⟩
      · have HR := Lib.hid (H3 h rfl hv)
        have HV := Lib.hid hv
        clear H1 H2 H3 H4 h hv
        go_enter Tryz.func116, Tryz.ntmps116
        go_wp2_with fail
        refine HC.out.mono ?_
        rintro e w1 ⟨rfl, hb1⟩
        go_wp2_with fail
        refine (tok_any a _ (by unfold maxLen; omega)).mono ?_
        rintro e w2 ⟨he, hb2⟩
        rw [HT.out] at he
        subst he
        go_wp2_with fail
        refine (value_any z _ (by omega)).mono ?_
        rintro e w3 ⟨he, hb3⟩
        rw [HV.out] at he
        subst he
        go_wp2_with fail
        (try simp only [Exit.inBlock, Exit.then]); refine bodyPost_ret (results_tmp4 rfl _ _ _) rfl ?_
        exact ⟨by rw [HR.out.1, HR.out.2.1, HR.out.2.2.1, HR.out.2.2.2]; rfl, below_then (below_then hb1 hb2) hb3⟩
  · have HT := Lib.hid h
    have HR := Lib.hid (H1 h)
    clear H1 H2 H3 H4 h
    go_enter Tryz.func116, Tryz.ntmps116
    go_wp2_with fail
    refine HC.out.mono ?_
    rintro e w1 ⟨rfl, hb1⟩
    go_wp2_with fail
    refine (tok_any a _ (by unfold maxLen; omega)).mono ?_
    rintro e w2 ⟨he, hb2⟩
    rw [HT.out] at he
    subst he
    go_wp2_with fail
    (try simp only [Exit.inBlock, Exit.then]); refine bodyPost_ret (results_tmp4 rfl _ _ _) rfl ?_
    exact ⟨by rw [HR.out.1, HR.out.2.1, HR.out.2.2.1, HR.out.2.2.2]; rfl, below_then hb1 hb2⟩

end Go.Proofs.YtnembpklidcgoaaGreatDoor
end

/-
  Contracts of the reference's Unquote and Param (layer 6).
-/
section
namespace Go.Proofs.YtnembpklidcgoaaGreatDoor
open Go.RowKit

/-- How the reference's state stands for the list's. -/
def unb (p s : ByteArray) (k : Nat) : Option (List UInt8) := unqR 1 p.data.toList (s.data.toList.drop k)
end Go.Proofs.YtnembpklidcgoaaGreatDoor
end
