/-
  Texts that the laws of this seat lean on, one behind the other.
-/
import Derived.Test.YtfmaaghmbnhikaaGreatDoorMrgJ
import Derived.Test.YtfmaaghmbnhikaaGreatDoorMrgA
/-
  Contracts of the reference's functions on bytes (layer 1), for every byte.
-/
section
namespace Go.Proofs.YtfmaaghmbnhikaaGreatDoor
open Go.RowKit

theorem r_blank (c : Int) (w : World) :
    Calls Tryz.prog 116 #[.int .u8 c] w fun e w' => e = .returned (.bool (blkB c)) ∧ w = w' := by
  unfold blkB
  by_cases h : (c == 32) = true
  · go_enter Tryz.func116, Tryz.ntmps116
    go_wp2
    go_ret
    exact ⟨by simp [h], rfl⟩
  · have h' : (c == 32) = false := by simpa using h
    go_enter Tryz.func116, Tryz.ntmps116
    go_wp2
    go_ret
    exact ⟨by simp [h'], rfl⟩

def mrk (k : Nat) : Nat := [33, 35, 36, 37, 38, 39, 42, 43, 45, 46, 94, 95, 96, 124, 126].getD k 0
theorem mrk_at : ∀ (k : Nat) (h : k < 15), (⟨#[33, 35, 36, 37, 38, 39, 42, 43, 45, 46, 94, 95, 96, 124, 126]⟩ : ByteArray)[k].toNat = mrk k := by decide +kernel
theorem tok_hit : ∀ n : Nat, n < 256 → ∀ k : Nat, k < 15 → mrk k = n → tokB n = true := by decide +kernel
theorem tok_miss : ∀ n : Nat, n < 256 → (rng 65 90 n || rng 97 122 n || rng 48 57 n) = false → (∀ k : Nat, k < 15 → mrk k ≠ n) → tokB n = false := by decide +kernel

theorem r_token (n : Nat) (hn : n < 256) (w : World) :
    Calls Tryz.prog 155 #[.int .u8 n] w fun e w' => e = .returned (.bool (tokB n)) ∧ w = w' := by
  by_cases hl : (rng 65 90 n || rng 97 122 n || rng 48 57 n) = true
  · have HT : Hid (tokB n = true) := by
      show _ = _
      unfold tokB
      simp only [Bool.or_eq_true] at hl ⊢
      rcases hl with (h | h) | h <;> simp [h]
    simp only [Bool.or_eq_true, rng_true] at hl
    rcases hl with (⟨a, b⟩ | ⟨a, b⟩) | ⟨a, b⟩
    · go_enter Tryz.func155, Tryz.ntmps155
      go_wp2
      go_ret
      exact ⟨by rw [HT.out]; rfl, rfl⟩
    · have h2 : ¬ (n : Int) ≤ 90 := by omega
      go_enter Tryz.func155, Tryz.ntmps155
      go_wp2
      go_ret
      exact ⟨by rw [HT.out]; rfl, rfl⟩
    · have h2 : ¬ (65 : Int) ≤ n := by omega
      have h3 : ¬ (97 : Int) ≤ n := by omega
      go_enter Tryz.func155, Tryz.ntmps155
      go_wp2
      go_ret
      exact ⟨by rw [HT.out]; rfl, rfl⟩
  · have hl' : (rng 65 90 n || rng 97 122 n || rng 48 57 n) = false := by simpa using hl
    have HL := Lib.hid hl'
    have n1 : ¬ (65 ≤ n ∧ n ≤ 90) := by simp only [Bool.or_eq_false_iff, rng_false] at hl'; omega
    have n2 : ¬ (97 ≤ n ∧ n ≤ 122) := by simp only [Bool.or_eq_false_iff, rng_false] at hl'; omega
    have n3 : ¬ (48 ≤ n ∧ n ≤ 57) := by simp only [Bool.or_eq_false_iff, rng_false] at hl'; omega
    clear hl hl'
    rcases (show n < 48 ∨ (57 < n ∧ n < 65) ∨ (90 < n ∧ n < 97) ∨ 122 < n by omega) with q | q | q | q
    · have m0 : ¬ (65 : Int) ≤ n := by omega
      have m1 : ¬ (97 : Int) ≤ n := by omega
      have m2 : ¬ (48 : Int) ≤ n := by omega
      clear q n1 n2 n3
      go_enter Tryz.func155, Tryz.ntmps155
      go_wp2
      go_loop [4] (fun i => ∃ k : Nat, k ≤ 15 ∧ i = .int .i64 k ∧ Hid (∀ j : Nat, j < k → mrk j ≠ n)) (fun i => 15 - (intOf i).toNat)
      case atStart => exact ⟨0, by omega, rfl, fun j h => absurd h (by omega)⟩
      case round =>
        obtain ⟨k, hk, rfl, hf⟩ := hrel
        by_cases hlt : k < 15
        · have ha := Lib.hid (mrk_at k hlt)
          by_cases e1 : ((((⟨#[33, 35, 36, 37, 38, 39, 42, 43, 45, 46, 94, 95, 96, 124, 126]⟩ : ByteArray)[k]'hlt).toNat : Int) == (n : Int)) = true
          · have HH := Lib.hid (tok_hit n hn k hlt (by have := ha.out; simp only [beq_iff_eq] at e1; omega))
            clear hf
            go_wp2
            go_ret
            exact ⟨by rw [HH.out]; rfl, rfl⟩
          · have e1' : ((((⟨#[33, 35, 36, 37, 38, 39, 42, 43, 45, 46, 94, 95, 96, 124, 126]⟩ : ByteArray)[k]'hlt).toNat : Int) == (n : Int)) = false := by simpa using e1
            clear e1
            have HF : Hid (∀ j : Nat, j < k + 1 → mrk j ≠ n) := fun j hj => by
              by_cases e : j = k
              · subst e
                have h1 := ha.out
                simp only [beq_eq_false_iff_ne, ne_eq] at e1'
                omega
              · exact hf.out j (by omega)
            clear hf
            go_wp2
            go_round
            case rel => exact ⟨k + 1, by omega, by go_num, HF⟩
            case measure => simp [intOf]; omega
        · have HH := Lib.hid (tok_miss n hn HL.out (fun j hj => hf.out j (by omega)))
          clear hf
          go_wp2
          go_ret
          exact ⟨by rw [HH.out]; rfl, rfl⟩
    · have m0 : ¬ (65 : Int) ≤ n := by omega
      have m1 : ¬ (97 : Int) ≤ n := by omega
      have m2 : (48 : Int) ≤ n := by omega
      have m3 : ¬ (n : Int) ≤ 57 := by omega
      clear q n1 n2 n3
      go_enter Tryz.func155, Tryz.ntmps155
      go_wp2
      go_loop [4] (fun i => ∃ k : Nat, k ≤ 15 ∧ i = .int .i64 k ∧ Hid (∀ j : Nat, j < k → mrk j ≠ n)) (fun i => 15 - (intOf i).toNat)
      case atStart => exact ⟨0, by omega, rfl, fun j h => absurd h (by omega)⟩
      case round =>
        obtain ⟨k, hk, rfl, hf⟩ := hrel
        by_cases hlt : k < 15
        · have ha := Lib.hid (mrk_at k hlt)
          by_cases e1 : ((((⟨#[33, 35, 36, 37, 38, 39, 42, 43, 45, 46, 94, 95, 96, 124, 126]⟩ : ByteArray)[k]'hlt).toNat : Int) == (n : Int)) = true
          · have HH := Lib.hid (tok_hit n hn k hlt (by have := ha.out; simp only [beq_iff_eq] at e1; omega))
            clear hf
            go_wp2
            go_ret
            exact ⟨by rw [HH.out]; rfl, rfl⟩
          · have e1' : ((((⟨#[33, 35, 36, 37, 38, 39, 42, 43, 45, 46, 94, 95, 96, 124, 126]⟩ : ByteArray)[k]'hlt).toNat : Int) == (n : Int)) = false := by simpa using e1
            clear e1
            have HF : Hid (∀ j : Nat, j < k + 1 → mrk j ≠ n) := fun j hj => by
              by_cases e : j = k
              · subst e
                have h1 := ha.out
                simp only [beq_eq_false_iff_ne, ne_eq] at e1'
                omega
              · exact hf.out j (by omega)
            clear hf
            go_wp2
            go_round
            case rel => exact ⟨k + 1, by omega, by go_num, HF⟩
            case measure => simp [intOf]; omega
        · have HH := Lib.hid (tok_miss n hn HL.out (fun j hj => hf.out j (by omega)))
          clear hf
          go_wp2
          go_ret
          exact ⟨by rw [HH.out]; rfl, rfl⟩
    · have m0 : (65 : Int) ≤ n := by omega
      have m1 : ¬ (n : Int) ≤ 90 := by omega
      have m2 : ¬ (97 : Int) ≤ n := by omega
      have m3 : (48 : Int) ≤ n := by omega
      have m4 : ¬ (n : Int) ≤ 57 := by omega
      clear q n1 n2 n3
      go_enter Tryz.func155, Tryz.ntmps155
      go_wp2
      go_loop [4] (fun i => ∃ k : Nat, k ≤ 15 ∧ i = .int .i64 k ∧ Hid (∀ j : Nat, j < k → mrk j ≠ n)) (fun i => 15 - (intOf i).toNat)
      case atStart => exact ⟨0, by omega, rfl, fun j h => absurd h (by omega)⟩
      case round =>
        obtain ⟨k, hk, rfl, hf⟩ := hrel
        by_cases hlt : k < 15
        · have ha := Lib.hid (mrk_at k hlt)
          by_cases e1 : ((((⟨#[33, 35, 36, 37, 38, 39, 42, 43, 45, 46, 94, 95, 96, 124, 126]⟩ : ByteArray)[k]'hlt).toNat : Int) == (n : Int)) = true
          · have HH := Lib.hid (tok_hit n hn k hlt (by have := ha.out; simp only [beq_iff_eq] at e1; omega))
            clear hf
            go_wp2
            go_ret
            exact ⟨by rw [HH.out]; rfl, rfl⟩
          · have e1' : ((((⟨#[33, 35, 36, 37, 38, 39, 42, 43, 45, 46, 94, 95, 96, 124, 126]⟩ : ByteArray)[k]'hlt).toNat : Int) == (n : Int)) = false := by simpa using e1
            clear e1
            have HF : Hid (∀ j : Nat, j < k + 1 → mrk j ≠ n) := fun j hj => by
              by_cases e : j = k
              · subst e
                have h1 := ha.out
                simp only [beq_eq_false_iff_ne, ne_eq] at e1'
                omega
              · exact hf.out j (by omega)
            clear hf
            go_wp2
            go_round
            case rel => exact ⟨k + 1, by omega, by go_num, HF⟩
            case measure => simp [intOf]; omega
        · have HH := Lib.hid (tok_miss n hn HL.out (fun j hj => hf.out j (by omega)))
          clear hf
          go_wp2
          go_ret
          exact ⟨by rw [HH.out]; rfl, rfl⟩
    · have m0 : (65 : Int) ≤ n := by omega
      have m1 : ¬ (n : Int) ≤ 90 := by omega
      have m2 : (97 : Int) ≤ n := by omega
      have m3 : ¬ (n : Int) ≤ 122 := by omega
      have m4 : (48 : Int) ≤ n := by omega
      have m5 : ¬ (n : Int) ≤ 57 := by omega
      clear q n1 n2 n3
      go_enter Tryz.func155, Tryz.ntmps155
      go_wp2
      go_loop [4] (fun i => ∃ k : Nat, k ≤ 15 ∧ i = .int .i64 k ∧ Hid (∀ j : Nat, j < k → mrk j ≠ n)) (fun i => 15 - (intOf i).toNat)
      case atStart => exact ⟨0, by omega, rfl, fun j h => absurd h (by omega)⟩
      case round =>
        obtain ⟨k, hk, rfl, hf⟩ := hrel
        by_cases hlt : k < 15
        · have ha := Lib.hid (mrk_at k hlt)
          by_cases e1 : ((((⟨#[33, 35, 36, 37, 38, 39, 42, 43, 45, 46, 94, 95, 96, 124, 126]⟩ : ByteArray)[k]'hlt).toNat : Int) == (n : Int)) = true
          · have HH := Lib.hid (tok_hit n hn k hlt (by have := ha.out; simp only [beq_iff_eq] at e1; omega))
            clear hf
            go_wp2
            go_ret
            exact ⟨by rw [HH.out]; rfl, rfl⟩
          · have e1' : ((((⟨#[33, 35, 36, 37, 38, 39, 42, 43, 45, 46, 94, 95, 96, 124, 126]⟩ : ByteArray)[k]'hlt).toNat : Int) == (n : Int)) = false := by simpa using e1
            clear e1
            have HF : Hid (∀ j : Nat, j < k + 1 → mrk j ≠ n) := fun j hj => by
              by_cases e : j = k
              · subst e
                have h1 := ha.out
                simp only [beq_eq_false_iff_ne, ne_eq] at e1'
                omega
              · exact hf.out j (by omega)
            clear hf
            go_wp2
            go_round
            case rel => exact ⟨k + 1, by omega, by go_num, HF⟩
            case measure => simp [intOf]; omega
        · have HH := Lib.hid (tok_miss n hn HL.out (fun j hj => hf.out j (by omega)))
          clear hf
          go_wp2
          go_ret
          exact ⟨by rw [HH.out]; rfl, rfl⟩

end Go.Proofs.YtfmaaghmbnhikaaGreatDoor
end

/-
  Contracts of the functions on texts of package octet: every, IsToken, IsText, Trim, Cut.
-/
section
namespace Go.Proofs.YtfmaaghmbnhikaaGreatDoor
open Go.RowKit

theorem every_tok (s : ByteArray) (w : World) (hs : s.size ≤ maxLen) :
    Calls Tryz.prog 148 #[.string s, .func (.func 149) #[] #[]] w fun e w' => e = .returned (.bool (allB tokB s.data.toList)) ∧ Below w.heap.size w w' := by
  unfold maxLen at hs
  go_enter Tryz.func148, Tryz.ntmps148
  go_wp2
  go_loopw [4, 8] (fun r i wr => ∃ k : Nat, k ≤ s.size ∧ i = .int .i64 k ∧ r = .bool false ∧ Hid (allB tokB (s.data.toList.take k) = true) ∧ Below w.heap.size w wr) (fun _ i _ => s.size - (intOf i).toNat)
  case atStart => exact ⟨0, Nat.zero_le _, rfl, rfl, rfl, Below.refl _ _⟩
  case round =>
    obtain ⟨k, hk, rfl, rfl, hf, hbel⟩ := hrel
    by_cases hlt : k < s.size
    · have hbd := byte_wf s[k]
      by_cases hin : tokB (s[k].toNat : Int) = true
      · have HA : Hid (allB tokB (s.data.toList.take (k + 1)) = true) := by show _ = _; rw [allB_take tokB s k hlt, hf.out, hin]; rfl
        have HI := Lib.hid hin
        clear hin hf
        go_wp2_with (go_at_call 149; refine (token_any _ hbd.1 hbd.2 _).mono ?_; rintro e w1 ⟨he, hb1⟩; rw [HI.out] at he; subst he)
        go_roundw
        case rel => exact ⟨k + 1, by omega, by go_num, rfl, HA, hbel.trans (hb1.mono hbel.size)⟩
        case measure => simp [intOf]; omega
      · have hin' : tokB (s[k].toNat : Int) = false := by simpa using hin
        have HA : Hid (allB tokB s.data.toList = false) := allB_false tokB s k hlt hin'
        have HI := Lib.hid hin'
        clear hin hin' hf
        go_wp2_with (go_at_call 149; refine (token_any _ hbd.1 hbd.2 _).mono ?_; rintro e w1 ⟨he, hb1⟩; rw [HI.out] at he; subst he)
        go_ret
        exact ⟨by rw [HA.out]; rfl, hbel.trans (hb1.mono hbel.size)⟩
    · have HA : Hid (allB tokB s.data.toList = true) := allB_full tokB s k (by omega) hf.out
      clear hf
      go_wp2
      go_ret
      exact ⟨by rw [HA.out]; rfl, hbel⟩

theorem isToken_any (s : ByteArray) (w : World) (hs : s.size ≤ maxLen) :
    Calls Tryz.prog 119 #[.string s] w fun e w' => e = .returned (.bool (!s.toList.isEmpty && allB tokB s.data.toList)) ∧ Below w.heap.size w w' := by
  by_cases h : s.toList.isEmpty = true
  · have h2 : (!s.toList.isEmpty) = false := by simp [h]
    have H := Lib.hid h2
    go_enter Tryz.func119, Tryz.ntmps119
    go_wp2_with fail
    go_ret
    exact ⟨by rw [H.out]; rfl, Below.refl _ _⟩
  · have h2 : (!s.toList.isEmpty) = true := by simpa using h
    have h3 : s.toList.isEmpty = false := by simpa using h
    have H := Lib.hid h2
    clear h
    go_enter Tryz.func119, Tryz.ntmps119
    go_wp2_with (go_at_call 148; refine (every_tok _ _ hs).mono ?_; rintro e w1 ⟨rfl, hb1⟩)
    go_ret
    exact ⟨by rw [H.out]; rfl, hb1⟩

end Go.Proofs.YtfmaaghmbnhikaaGreatDoor
end
