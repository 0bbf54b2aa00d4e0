/-
  Texts that the laws of this seat lean on, one behind the other.
-/
import Derived.Test.YtnembpklidcgoaaGreatDoorMrhO
import Derived.Test.YtnembpklidcgoaaGreatDoorMrhI
import Derived.Test.YtnembpklidcgoaaGreatDoorMrhJ
import Derived.Test.YtnembpklidcgoaaGreatDoorMrhK
/-
  Contracts of value and Param of package items.
-/
section
namespace Go.Proofs.YtnembpklidcgoaaGreatDoor
open Go.RowKit

def isTok (x : ByteArray) : Bool := !x.toList.isEmpty && allB tokB x.data.toList
def valO (z : ByteArray) : ByteArray := if isTok z then z else mkS (unqO z.data.toList)
def valE (z : ByteArray) : Int := if isTok z then 0 else unqE z.data.toList
def parE (s : ByteArray) : Int := if isTok (cutA s 61) then (if cutOk s 61 then valE (cutZ s 61) else 0) else 5
def parN (s : ByteArray) : ByteArray := if parE s = 0 then mkS (lowL (cutA s 61).data.toList) else ⟨#[]⟩
def parV (s : ByteArray) : ByteArray := if parE s = 0 ∧ cutOk s 61 = true then valO (cutZ s 61) else ⟨#[]⟩
def parH (s : ByteArray) : Bool := if parE s = 0 then cutOk s 61 else false
theorem unqE_two (l : List UInt8) : unqE l = 0 ∨ unqE l = 5 := by unfold unqE; split <;> simp
theorem valE_two (z : ByteArray) : valE z = 0 ∨ valE z = 5 := by unfold valE; split <;> simp [unqE_two]

theorem tok_any (s : ByteArray) (w : World) (hs : s.size ≤ maxLen) :
    Calls Tryz.prog 153 #[.string s] w fun e w' => e = .returned (.bool (isTok s)) ∧ Below w.heap.size w w' := isToken_any s w hs

theorem value_any (s : ByteArray) (w : World) (hs : s.size ≤ 100000000) :
    Calls Tryz.prog 155 #[.string s] w fun e w' => e = .returned (.tuple #[.string (valO s), .int .i64 (valE s)]) ∧ Below w.heap.size w w' := by
  rcases Bool.eq_false_or_eq_true (isTok s) with h | h
  · have HT := Lib.hid h
    have HO : Hid (valO s = s) := by show _ = _; simp [valO, h]
    have HE : Hid (valE s = 0) := by show _ = _; simp [valE, h]
    clear h
    go_enter Tryz.func155, Tryz.ntmps155
    go_wp2_with fail
    refine (tok_any s _ (by unfold maxLen; omega)).mono ?_
    rintro e w1 ⟨he, hb1⟩
    rw [HT.out] at he
    subst he
    go_wp2_with fail
    go_ret2
    exact ⟨by rw [HO.out, HE.out]; rfl, hb1⟩
  · have HT := Lib.hid h
    have HO : Hid (valO s = mkS (unqO s.data.toList)) := by show _ = _; simp [valO, h]
    have HE : Hid (valE s = unqE s.data.toList) := by show _ = _; simp [valE, h]
    clear h
    go_enter Tryz.func155, Tryz.ntmps155
    go_wp2_with fail
    refine (tok_any s _ (by unfold maxLen; omega)).mono ?_
    rintro e w1 ⟨he, hb1⟩
    rw [HT.out] at he
    subst he
    go_wp2_with fail
    refine (unquote_any s _ hs).mono ?_
    rintro e w2 ⟨he, hb2⟩
    rw [← HO.out, ← HE.out] at he
    obtain ⟨a, ha⟩ : ∃ a, a = valO s := ⟨_, rfl⟩
    obtain ⟨b, hb⟩ : ∃ b, b = valE s := ⟨_, rfl⟩
    rw [← ha, ← hb] at he
    have HA := Lib.hid ha
    have HB := Lib.hid hb
    clear ha hb
    subst he
    go_wp2_with fail
    go_ret2
    exact ⟨by rw [← HA.out, ← HB.out]; rfl, below_then hb1 hb2⟩

theorem cutA_le (s : ByteArray) (c : Int) : (cutA s c).size ≤ s.size := by
  unfold cutA
  split
  · exact Nat.le_refl _
  · rw [ByteArray.size_extract]; omega
theorem cutZ_le (s : ByteArray) (c : Int) : (cutZ s c).size ≤ s.size := by
  unfold cutZ
  split
  · exact Nat.zero_le _
  · rw [ByteArray.size_extract]; omega
theorem par_tok {s : ByteArray} (h : isTok (cutA s 61) = false) : parN s = ⟨#[]⟩ ∧ parV s = ⟨#[]⟩ ∧ parH s = false ∧ parE s = 5 := by
  have e : parE s = 5 := by simp [parE, h]
  simp [parN, parV, parH, e]
theorem par_bare {s : ByteArray} (h : isTok (cutA s 61) = true) (k : cutOk s 61 = false) : parN s = mkS (lowL (cutA s 61).data.toList) ∧ parV s = ⟨#[]⟩ ∧ parH s = false ∧ parE s = 0 := by
  have e : parE s = 0 := by simp [parE, h, k]
  simp [parN, parV, parH, e, k]
theorem par_bad {s : ByteArray} (h : isTok (cutA s 61) = true) (k : cutOk s 61 = true) (v : valE (cutZ s 61) = 5) : parN s = ⟨#[]⟩ ∧ parV s = ⟨#[]⟩ ∧ parH s = false ∧ parE s = 5 := by
  have e : parE s = 5 := by simp [parE, h, k, v]
  simp [parN, parV, parH, e]
theorem par_good {s : ByteArray} (h : isTok (cutA s 61) = true) (k : cutOk s 61 = true) (v : valE (cutZ s 61) = 0) : parN s = mkS (lowL (cutA s 61).data.toList) ∧ parV s = valO (cutZ s 61) ∧ parH s = true ∧ parE s = 0 := by
  have e : parE s = 0 := by simp [parE, h, k, v]
  simp [parN, parV, parH, e, k]

theorem param_any (s : ByteArray) (w : World) (hs : s.size ≤ 100000000) :
    Calls Tryz.prog 116 #[.string s] w fun e w' => e = .returned (.tuple #[.string (parN s), .string (parV s), .bool (parH s), .int .i64 (parE s)]) ∧ Below w.heap.size w w' := by
  have H1 := @par_tok s
  have H2 := @par_bare s
  have H3 := @par_bad s
  have H4 := @par_good s
  have ha := cutA_le s 61
  have hz := cutZ_le s 61
  have hcut := cut_any s 61 w (by unfold maxLen; omega) (by omega) (by omega)
  generalize parN s = N at *
  generalize parV s = V at *
  generalize parH s = H at *
  generalize parE s = E at *
  generalize cutA s 61 = a at *
  generalize cutZ s 61 = z at *
  generalize cutOk s 61 = b at *
  have HC := Lib.hid hcut
  clear hcut
  rcases Bool.eq_false_or_eq_true (isTok a) with h | h
  · have HT := Lib.hid h
    cases b with
    | false =>
      have HR := Lib.hid (H2 h rfl)
      clear H1 H2 H3 H4 h
      go_enter Tryz.func116, Tryz.ntmps116
      go_wp2_with fail
      refine HC.out.mono ?_
      rintro e w1 ⟨rfl, hb1⟩
      go_wp2_with fail
      refine (tok_any a _ (by unfold maxLen; omega)).mono ?_
      rintro e w2 ⟨he, hb2⟩
      rw [HT.out] at he
      subst he
      go_wp2_with fail
      refine (lower_any a _ (by unfold maxLen; omega)).mono ?_
      rintro e w3 ⟨rfl, hb3⟩
      go_wp2_with fail
      (try simp only [Exit.inBlock, Exit.then]); refine bodyPost_ret (results_tmp4 rfl _ _ _) rfl ?_
      exact ⟨by rw [HR.out.1, HR.out.2.1, HR.out.2.2.1, HR.out.2.2.2]; rfl, below_then (below_then hb1 hb2) hb3⟩
    | true =>
      rcases valE_two z with hv | hv
      · have HR := Lib.hid (H4 h rfl hv)
        have HV := Lib.hid hv
        clear H1 H2 H3 H4 h hv
        go_enter Tryz.func116, Tryz.ntmps116
        go_wp2_with fail
        refine HC.out.mono ?_
        rintro e w1 ⟨rfl, hb1⟩
        go_wp2_with fail
        refine (tok_any a _ (by unfold maxLen; omega)).mono ?_
        rintro e w2 ⟨he, hb2⟩
        rw [HT.out] at he
        subst he
        go_wp2_with fail
        refine (value_any z _ (by omega)).mono ?_
        rintro e w3 ⟨he, hb3⟩
        rw [HV.out, ← HR.out.2.1] at he
        subst he
        go_wp2_with fail
        refine (lower_any a _ (by unfold maxLen; omega)).mono ?_
        rintro e w4 ⟨rfl, hb4⟩
        go_wp2_with fail
        (try simp only [Exit.inBlock, Exit.then]); refine bodyPost_ret (results_tmp4 rfl _ _ _) rfl ?_
        exact ⟨by rw [HR.out.1, HR.out.2.2.1, HR.out.2.2.2]; rfl, below_then (below_then (below_then hb1 hb2) hb3) hb4⟩
      · have HR := Lib.hid (H3 h rfl hv)
        have HV := Lib.hid hv
        clear H1 H2 H3 H4 h hv
        go_enter Tryz.func116, Tryz.ntmps116
        go_wp2_with fail
        refine HC.out.mono ?_
        rintro e w1 ⟨rfl, hb1⟩
        go_wp2_with fail
        refine (tok_any a _ (by unfold maxLen; omega)).mono ?_
        rintro e w2 ⟨he, hb2⟩
        rw [HT.out] at he
        subst he
        go_wp2_with fail
        refine (value_any z _ (by omega)).mono ?_
        rintro e w3 ⟨he, hb3⟩
        rw [HV.out] at he
        subst he
        go_wp2_with fail
        (try simp only [Exit.inBlock, Exit.then]); refine bodyPost_ret (results_tmp4 rfl _ _ _) rfl ?_
        exact ⟨by rw [HR.out.1, HR.out.2.1, HR.out.2.2.1, HR.out.2.2.2]; rfl, below_then (below_then hb1 hb2) hb3⟩
  · have HT := Lib.hid h
    have HR := Lib.hid (H1 h)
    clear H1 H2 H3 H4 h
    go_enter Tryz.func116, Tryz.ntmps116
    go_wp2_with fail
    refine HC.out.mono ?_
    rintro e w1 ⟨rfl, hb1⟩
    go_wp2_with fail
    refine (tok_any a _ (by unfold maxLen; omega)).mono ?_
    rintro e w2 ⟨he, hb2⟩
    rw [HT.out] at he
    subst he
    go_wp2_with fail
    (try simp only [Exit.inBlock, Exit.then]); refine bodyPost_ret (results_tmp4 rfl _ _ _) rfl ?_
    exact ⟨by rw [HR.out.1, HR.out.2.1, HR.out.2.2.1, HR.out.2.2.2]; rfl, below_then hb1 hb2⟩

end Go.Proofs.YtnembpklidcgoaaGreatDoor
end

/-
  Contracts of the reference's Unquote and Param (layer 6).
-/
section
namespace Go.Proofs.YtnembpklidcgoaaGreatDoor
open Go.RowKit

theorem unq_short (s : ByteArray) (h : s.size < 2) : unqO s.data.toList = [] ∧ unqE s.data.toList = 5 := by
  have hl := Lib.size_eq s
  have : unqL s.data.toList = none := by
    cases e : s.data.toList with
    | nil => rfl
    | cons c r =>
      have : r = [] := by
        rw [e] at hl
        simp only [List.length_cons] at hl
        exact List.eq_nil_of_length_eq_zero (by omega)
      subst this
      simp [unqL, unqR]
  simp [unqO, unqE, this]
/-- How the reference's state stands for the list's. -/
def unb (p s : ByteArray) (k : Nat) : Option (List UInt8) := unqR 1 p.data.toList (s.data.toList.drop k)
theorem unb_start (s : ByteArray) (h : 0 < s.size) (hc : s[0] = 34) : unqL s.data.toList = unb ⟨#[]⟩ s 1 := by
  have e := drop_at s 0 h
  rw [List.drop_zero, hc] at e
  unfold unb
  rw [e]; simp [unqL]
theorem unb_close (s p : ByteArray) (k : Nat) (h : k < s.size) (hc : s[k] = 34) : unb p s k = if k + 1 = s.size then some p.data.toList else none := by
  unfold unb
  rw [drop_at s k h, hc]
  have : s.data.toList.drop (k + 1) = [] ↔ k + 1 = s.size := by
    rw [List.drop_eq_nil_iff, ← Lib.size_eq]; omega
  simp only [unqR, and_self, if_true, this]
theorem unb_esc (s p : ByteArray) (k : Nat) (h : k + 1 < s.size) (hc : s[k]'(by omega) = 92) : unb p s k = unb (p ++ s.extract (k + 1) (k + 2)) s (k + 2) := by
  unfold unb
  rw [ext_one s p (k + 1) h, drop_at s k (by omega), drop_at s (k + 1) h, hc]
  simp [unqR]
theorem unb_stop (s p : ByteArray) (k : Nat) (h : k < s.size) (hc : s[k] = 92) (h2 : s.size ≤ k + 2) : unb p s k = none := by
  unfold unb
  rw [drop_at s k h, hc]
  by_cases h3 : k + 1 < s.size
  · rw [drop_at s (k + 1) h3, List.drop_eq_nil_of_le (by rw [← Lib.size_eq]; omega)]
    simp [unqR]
  · rw [List.drop_eq_nil_of_le (by rw [← Lib.size_eq]; omega)]
    simp [unqR]
theorem unb_in (s p : ByteArray) (k : Nat) (h : k < s.size) (h1 : s[k] ≠ 34) (h2 : s[k] ≠ 92) : unb p s k = unb (p ++ s.extract k (k + 1)) s (k + 1) := by
  unfold unb
  rw [ext_one s p k h, drop_at s k h]
  simp [unqR, h1, h2]
theorem unb_none (s p : ByteArray) (k : Nat) (h : s.size ≤ k) : unb p s k = none := by
  unfold unb
  rw [List.drop_eq_nil_of_le (by rw [← Lib.size_eq]; exact h)]; rfl
theorem unq_some {l t : List UInt8} (h : unqL l = some t) : unqO l = t ∧ unqE l = 0 := by simp [unqO, unqE, h]
theorem unq_none {l : List UInt8} (h : unqL l = none) : unqO l = [] ∧ unqE l = 5 := by simp [unqO, unqE, h]

set_option maxHeartbeats 1000000 in
theorem r_unquote (s : ByteArray) (w : World) (hs : s.size ≤ 100000000) :
    Calls Tryz.prog 165 #[.string s] w fun e w' => e = .returned (.tuple #[.string (mkS (unqO s.data.toList)), .int .i64 (unqE s.data.toList)]) ∧ w = w' := by
  by_cases h2 : 2 ≤ s.size
  · have h2i : (2 : Int) ≤ (s.size : Int) := by omega
    have h0 : 0 < s.size := by omega
    by_cases e1 : ((s[0].toNat : Int) == 34) = true
    · have HS := Lib.hid (unb_start s h0 (byte_eq (n := 34) (by omega) e1))
      have e1n : ((s[0].toNat : Int) != 34) = false := by rw [bne, e1]; rfl
      have hcj : (2 : Int) ≤ (s.size : Int) ∧ ((s[0].toNat : Int) != 34) = false := ⟨h2i, e1n⟩
      go_enter Tryz.func165, Tryz.ntmps165
      go_wp2_with fail
      clear e1 e1n hcj
      go_loop [4, 5] (fun p i => ∃ (k : Nat) (P : ByteArray), 1 ≤ k ∧ k ≤ s.size ∧ P.size ≤ k ∧ i = .int .i64 k ∧ p = .string P ∧ Hid (unqL s.data.toList = unb P s k)) (fun _ i => s.size - (intOf i).toNat)
      case atStart => exact ⟨1, ⟨#[]⟩, Nat.le_refl _, by omega, Nat.zero_le _, by go_num, rfl, HS⟩
      case round =>
        clear HS
        obtain ⟨k, P, hk1, hk, hP, rfl, rfl, hf⟩ := hrel
        by_cases hlt : k < s.size
        · have hx1 : (k : Int) + 1 ≤ (s.size : Int) := by omega
          have hx0 : (k : Int) ≤ (k : Int) + 1 := by omega
          rcases byte3 s[k] with ⟨hc, e1, e2, -⟩ | ⟨hc, e1, e2, -⟩ | ⟨hc, e1, e2, -⟩ | ⟨hc, e1, e2, -⟩
          · have HU := hf.out.trans (unb_close s P k hlt hc)
            by_cases hend : k + 1 = s.size
            · rw [if_pos hend] at HU
              have HF := Lib.hid (unq_some HU)
              have hb : ((k : Int) == (s.size : Int) - 1) = true := by rw [beq_iff_eq]; omega
              have HP := Lib.hid (mkS_self P)
              clear hf HU hc hend
              go_wp2
              go_ret2
              exact ⟨by rw [HF.out.1, HF.out.2, HP.out]; rfl, rfl⟩
            · rw [if_neg hend] at HU
              have HF := Lib.hid (unq_none HU)
              have hb : ((k : Int) == (s.size : Int) - 1) = false := by rw [beq_eq_false_iff_ne]; omega
              clear hf HU hc
              go_wp2
              go_ret2
              exact ⟨by rw [HF.out.1, HF.out.2]; rfl, rfl⟩
          · by_cases hge : k + 2 < s.size
            · have HU := Lib.hid (hf.out.trans (unb_esc s P k (by omega) hc))
              have hx2 : (k : Int) + 1 + 1 ≤ (s.size : Int) := by omega
              have hx3 : (k : Int) + 1 ≤ (k : Int) + 1 + 1 := by omega
              have hx4 : (0 : Int) ≤ (k : Int) + 1 := by omega
              have hx5 : ((k : Int) + 1).toNat = k + 1 := by omega
              have hx6 : ((k : Int) + 1 + 1).toNat = k + 2 := by omega
              have hsz : (P ++ s.extract (k + 1) (k + 2)).size ≤ k + 2 := by rw [xt_size s P (k + 1) (k + 2) (by omega) (by omega)]; omega
              clear hf hc
              go_wp2
              go_round
              case rel => exact ⟨k + 2, _, by omega, by omega, hsz, by go_num, rfl, HU⟩
              case measure => simp [intOf]; omega
            · have HF := Lib.hid (unq_none (hf.out.trans (unb_stop s P k hlt hc (by omega))))
              clear hf hc
              go_wp2
              go_ret2
              exact ⟨by rw [HF.out.1, HF.out.2]; rfl, rfl⟩
          all_goals
            have HU := Lib.hid (hf.out.trans (unb_in s P k hlt (byte_ne (n := 34) (by omega) e1) (byte_ne (n := 92) (by omega) e2)))
            have hsz : (P ++ s.extract k (k + 1)).size ≤ k + 1 := by rw [xt_size s P k (k + 1) (by omega) (by omega)]; omega
            clear hf hc
            go_wp2
            go_round
            case rel => exact ⟨k + 1, _, by omega, by omega, hsz, by go_num, rfl, HU⟩
            case measure => simp [intOf]; omega
        · have HF := Lib.hid (unq_none (hf.out.trans (unb_none s P k (by omega))))
          clear hf
          go_wp2
          go_ret2
          exact ⟨by rw [HF.out.1, HF.out.2]; rfl, rfl⟩
    · have e1' : ((s[0].toNat : Int) == 34) = false := by simpa using e1
      have HF := Lib.hid (unq_head s h0 (byte_ne (n := 34) (by omega) e1'))
      have e1n : ((s[0].toNat : Int) != 34) = true := by rw [bne, e1']; rfl
      have hcj : ¬ ((2 : Int) ≤ (s.size : Int) ∧ ((s[0].toNat : Int) != 34) = false) := fun h => by rw [e1n] at h; exact absurd h.2 (by decide)
      clear e1
      go_enter Tryz.func165, Tryz.ntmps165
      go_wp2_with fail
      go_ret2
      exact ⟨by rw [HF.out.1, HF.out.2]; rfl, rfl⟩
  · have h2i : ¬ (2 : Int) ≤ (s.size : Int) := by omega
    have HF := Lib.hid (unq_short s (by omega))
    clear h2
    go_enter Tryz.func165, Tryz.ntmps165
    go_wp2_with fail
    go_ret2
    exact ⟨by rw [HF.out.1, HF.out.2]; rfl, rfl⟩

theorem r_tok (s : ByteArray) (w : World) (hs : s.size ≤ maxLen) :
    Calls Tryz.prog 88 #[.string s] w fun e w' => e = .returned (.bool (isTok s)) ∧ w = w' := r_isToken s w hs
theorem par_plain {s : ByteArray} (h : isTok (cutA s 61) = true) (k : cutOk s 61 = true) (v : isTok (cutZ s 61) = true) : parN s = mkS (lowL (cutA s 61).data.toList) ∧ parV s = cutZ s 61 ∧ parH s = true ∧ parE s = 0 := by
  have e : valE (cutZ s 61) = 0 := by simp [valE, v]
  have := par_good h k e
  rw [show valO (cutZ s 61) = cutZ s 61 by simp [valO, v]] at this
  exact this
theorem par_unq {s : ByteArray} (h : isTok (cutA s 61) = true) (k : cutOk s 61 = true) (v : isTok (cutZ s 61) = false) (u : unqE (cutZ s 61).data.toList = 0) : parN s = mkS (lowL (cutA s 61).data.toList) ∧ parV s = mkS (unqO (cutZ s 61).data.toList) ∧ parH s = true ∧ parE s = 0 := by
  have e : valE (cutZ s 61) = 0 := by simp [valE, v, u]
  have := par_good h k e
  rw [show valO (cutZ s 61) = mkS (unqO (cutZ s 61).data.toList) by simp [valO, v]] at this
  exact this
theorem par_unbad {s : ByteArray} (h : isTok (cutA s 61) = true) (k : cutOk s 61 = true) (v : isTok (cutZ s 61) = false) (u : unqE (cutZ s 61).data.toList = 5) : parN s = ⟨#[]⟩ ∧ parV s = ⟨#[]⟩ ∧ parH s = false ∧ parE s = 5 :=
  par_bad h k (by simp [valE, v, u])
theorem cut_none {s : ByteArray} (k : cutOk s 61 = false) : cutZ s 61 = ⟨#[]⟩ := by
  unfold cutOk at k
  unfold cutZ
  simp at k
  simp [k]

theorem r_param (s : ByteArray) (w : World) (hs : s.size ≤ 100000000) :
    Calls Tryz.prog 132 #[.string s] w fun e w' => e = .returned (.tuple #[.string (parN s), .string (parV s), .bool (parH s), .int .i64 (parE s)]) ∧ Below w.heap.size w w' := by
  have H1 := @par_tok s
  have H2 := @par_bare s
  have H3 := @par_plain s
  have H4 := @par_unq s
  have H5 := @par_unbad s
  have H6 := @cut_none s
  have ha := cutA_le s 61
  have hz := cutZ_le s 61
  have hcut := r_cut s 61 w (by unfold maxLen; omega) (by omega) (by omega)
  generalize parN s = N at *
  generalize parV s = V at *
  generalize parH s = H at *
  generalize parE s = E at *
  generalize cutA s 61 = a at *
  generalize cutZ s 61 = z at *
  generalize cutOk s 61 = b at *
  have HC := Lib.hid hcut
  clear hcut
  rcases Bool.eq_false_or_eq_true (isTok a) with h | h
  · have HT := Lib.hid h
    cases b with
    | false =>
      have HR := Lib.hid (H2 h rfl)
      have HZ := Lib.hid (H6 rfl)
      clear H1 H2 H3 H4 H5 H6 h
      go_enter Tryz.func132, Tryz.ntmps132
      go_wp2_with fail
      refine HC.out.mono ?_
      rintro e w1 ⟨rfl, hb1⟩
      go_wp2_with fail
      refine (r_tok a _ (by unfold maxLen; omega)).mono ?_
      rintro e w2 ⟨he, rfl⟩
      rw [HT.out] at he
      subst he
      go_wp2_with fail
      refine (r_lower a _ (by unfold maxLen; omega)).mono ?_
      rintro e w3 ⟨rfl, hb3⟩
      go_wp2_with fail
      (try simp only [Exit.inBlock, Exit.then]); refine bodyPost_ret (results_tmp4 rfl _ _ _) rfl ?_
      exact ⟨by rw [HR.out.1, HR.out.2.1, HR.out.2.2.1, HR.out.2.2.2, ← HZ.out]; rfl, below_then hb1 hb3⟩
    | true =>
      rcases Bool.eq_false_or_eq_true (isTok z) with hv | hv
      · have HR := Lib.hid (H3 h rfl hv)
        have HV := Lib.hid hv
        clear H1 H2 H3 H4 H5 H6 h hv
        go_enter Tryz.func132, Tryz.ntmps132
        go_wp2_with fail
        refine HC.out.mono ?_
        rintro e w1 ⟨rfl, hb1⟩
        go_wp2_with fail
        refine (r_tok a _ (by unfold maxLen; omega)).mono ?_
        rintro e w2 ⟨he, rfl⟩
        rw [HT.out] at he
        subst he
        go_wp2_with fail
        refine (r_lower a _ (by unfold maxLen; omega)).mono ?_
        rintro e w3 ⟨rfl, hb3⟩
        go_wp2_with fail
        refine (r_tok z _ (by unfold maxLen; omega)).mono ?_
        rintro e w4 ⟨he, rfl⟩
        rw [HV.out] at he
        subst he
        go_wp2_with fail
        (try simp only [Exit.inBlock, Exit.then]); refine bodyPost_ret (results_tmp4 rfl _ _ _) rfl ?_
        exact ⟨by rw [HR.out.1, HR.out.2.1, HR.out.2.2.1, HR.out.2.2.2]; rfl, below_then hb1 hb3⟩
      · rcases unqE_two z.data.toList with hu | hu
        · have HR := Lib.hid (H4 h rfl hv hu)
          have HV := Lib.hid hv
          have HU := Lib.hid hu
          clear H1 H2 H3 H4 H5 H6 h hv hu
          go_enter Tryz.func132, Tryz.ntmps132
          go_wp2_with fail
          refine HC.out.mono ?_
          rintro e w1 ⟨rfl, hb1⟩
          go_wp2_with fail
          refine (r_tok a _ (by unfold maxLen; omega)).mono ?_
          rintro e w2 ⟨he, rfl⟩
          rw [HT.out] at he
          subst he
          go_wp2_with fail
          refine (r_lower a _ (by unfold maxLen; omega)).mono ?_
          rintro e w3 ⟨rfl, hb3⟩
          go_wp2_with fail
          refine (r_tok z _ (by unfold maxLen; omega)).mono ?_
          rintro e w4 ⟨he, rfl⟩
          rw [HV.out] at he
          subst he
          go_wp2_with fail
          refine (r_unquote z _ (by omega)).mono ?_
          rintro e w5 ⟨he, rfl⟩
          rw [HU.out, ← HR.out.2.1] at he
          subst he
          go_wp2_with fail
          (try simp only [Exit.inBlock, Exit.then]); refine bodyPost_ret (results_tmp4 rfl _ _ _) rfl ?_
          exact ⟨by rw [HR.out.1, HR.out.2.2.1, HR.out.2.2.2]; rfl, below_then hb1 hb3⟩
        · have HR := Lib.hid (H5 h rfl hv hu)
          have HV := Lib.hid hv
          have HU := Lib.hid hu
          clear H1 H2 H3 H4 H5 H6 h hv hu
          go_enter Tryz.func132, Tryz.ntmps132
          go_wp2_with fail
          refine HC.out.mono ?_
          rintro e w1 ⟨rfl, hb1⟩
          go_wp2_with fail
          refine (r_tok a _ (by unfold maxLen; omega)).mono ?_
          rintro e w2 ⟨he, rfl⟩
          rw [HT.out] at he
          subst he
          go_wp2_with fail
          refine (r_lower a _ (by unfold maxLen; omega)).mono ?_
          rintro e w3 ⟨rfl, hb3⟩
          go_wp2_with fail
          refine (r_tok z _ (by unfold maxLen; omega)).mono ?_
          rintro e w4 ⟨he, rfl⟩
          rw [HV.out] at he
          subst he
          go_wp2_with fail
          refine (r_unquote z _ (by omega)).mono ?_
          rintro e w5 ⟨he, rfl⟩
          rw [HU.out] at he
          subst he
          go_wp2_with fail
          (try simp only [Exit.inBlock, Exit.then]); refine bodyPost_ret (results_tmp4 rfl _ _ _) rfl ?_
          exact ⟨by rw [HR.out.1, HR.out.2.1, HR.out.2.2.1, HR.out.2.2.2]; rfl, below_then hb1 hb3⟩
  · have HT := Lib.hid h
    have HR := Lib.hid (H1 h)
    clear H1 H2 H3 H4 H5 H6 h
    go_enter Tryz.func132, Tryz.ntmps132
    go_wp2_with fail
    refine HC.out.mono ?_
    rintro e w1 ⟨rfl, hb1⟩
    go_wp2_with fail
    refine (r_tok a _ (by unfold maxLen; omega)).mono ?_
    rintro e w2 ⟨he, rfl⟩
    rw [HT.out] at he
    subst he
    go_wp2_with fail
    (try simp only [Exit.inBlock, Exit.then]); refine bodyPost_ret (results_tmp4 rfl _ _ _) rfl ?_
    exact ⟨by rw [HR.out.1, HR.out.2.1, HR.out.2.2.1, HR.out.2.2.2]; rfl, hb1⟩

end Go.Proofs.YtnembpklidcgoaaGreatDoor
end
