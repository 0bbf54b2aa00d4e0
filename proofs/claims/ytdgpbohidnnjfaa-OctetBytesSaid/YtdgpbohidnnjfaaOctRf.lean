/-
  Contracts of the reference's functions on bytes (layer 1), for every byte.
-/
import Derived.Test.YtdgpbohidnnjfaaOctBy
import Derived.Test.YtdgpbohidnnjfaaOctS
namespace Go.Proofs.Ytdgpbohidnnjfaa
open Go.RowKit

theorem r_text (c : Int) (h0 : 0 ≤ c) (h1 : c ≤ 255) (w : World) :
    Calls Try.prog 13 #[.int .u8 c] w fun e w' => e = .returned (.bool (txtB c)) ∧ w = w' := by
  have HQ : Hid (txtB c = (c == 9 || (decide (32 ≤ c) && c != 127))) := byte_all (p := txtB) (q := fun c => (c == 9 || (decide (32 ≤ c) && c != 127))) (by decide +kernel) h0 h1
  by_cases k1 : (c == 9) = true
  · go_enter Try.func13, Try.ntmps13
    go_wp2
    go_ret
    exact ⟨by rw [HQ.out]; simp [k1], rfl⟩
  · have k1' : (c == 9) = false := by simpa using k1
    by_cases k2 : 32 ≤ c
    · go_enter Try.func13, Try.ntmps13
      go_wp2
      go_ret
      exact ⟨by rw [HQ.out]; simp [k1', k2], rfl⟩
    · go_enter Try.func13, Try.ntmps13
      go_wp2
      go_ret
      exact ⟨by rw [HQ.out]; simp [k1']; omega, rfl⟩

theorem r_blank (c : Int) (w : World) :
    Calls Try.prog 34 #[.int .u8 c] w fun e w' => e = .returned (.bool (blkB c)) ∧ w = w' := by
  unfold blkB
  by_cases h : (c == 32) = true
  · go_enter Try.func34, Try.ntmps34
    go_wp2
    go_ret
    exact ⟨by simp [h], rfl⟩
  · have h' : (c == 32) = false := by simpa using h
    go_enter Try.func34, Try.ntmps34
    go_wp2
    go_ret
    exact ⟨by simp [h'], rfl⟩

def sml (k : Nat) : Nat := [48, 49, 50, 51, 52, 53, 54, 55, 56, 57, 97, 98, 99, 100, 101, 102].getD k 0
def grt (k : Nat) : Nat := [48, 49, 50, 51, 52, 53, 54, 55, 56, 57, 65, 66, 67, 68, 69, 70].getD k 0
def mrk (k : Nat) : Nat := [33, 35, 36, 37, 38, 39, 42, 43, 45, 46, 94, 95, 96, 124, 126].getD k 0
theorem sml_at : ∀ (k : Nat) (h : k < 16), (⟨#[48, 49, 50, 51, 52, 53, 54, 55, 56, 57, 97, 98, 99, 100, 101, 102]⟩ : ByteArray)[k].toNat = sml k := by decide +kernel
theorem grt_at : ∀ (k : Nat) (h : k < 16), (⟨#[48, 49, 50, 51, 52, 53, 54, 55, 56, 57, 65, 66, 67, 68, 69, 70]⟩ : ByteArray)[k].toNat = grt k := by decide +kernel
theorem mrk_at : ∀ (k : Nat) (h : k < 15), (⟨#[33, 35, 36, 37, 38, 39, 42, 43, 45, 46, 94, 95, 96, 124, 126]⟩ : ByteArray)[k].toNat = mrk k := by decide +kernel
theorem hex_hit : ∀ n : Nat, n < 256 → ∀ k : Nat, k < 16 → (sml k = n ∨ grt k = n) → hexN n = k ∧ hexB n = true := by decide +kernel
theorem hex_miss : ∀ n : Nat, n < 256 → (∀ k : Nat, k < 16 → sml k ≠ n ∧ grt k ≠ n) → hexN n = 0 ∧ hexB n = false := by decide +kernel
theorem tok_hit : ∀ n : Nat, n < 256 → ∀ k : Nat, k < 15 → mrk k = n → tokB n = true := by decide +kernel
theorem tok_miss : ∀ n : Nat, n < 256 → (rng 65 90 n || rng 97 122 n || rng 48 57 n) = false → (∀ k : Nat, k < 15 → mrk k ≠ n) → tokB n = false := by decide +kernel

theorem r_hex (n : Nat) (hn : n < 256) (w : World) :
    Calls Try.prog 9 #[.int .u8 n] w fun e w' => e = .returned (.tuple #[.int .i64 (hexN n), .bool (hexB n)]) ∧ w = w' := by
  go_enter Try.func9, Try.ntmps9
  go_wp2
  go_loop [6] (fun i => ∃ k : Nat, k ≤ 16 ∧ i = .int .i64 k ∧ Hid (∀ j : Nat, j < k → sml j ≠ n ∧ grt j ≠ n)) (fun i => 16 - (intOf i).toNat)
  case atStart => exact ⟨0, by omega, rfl, fun j h => absurd h (by omega)⟩
  case round =>
    obtain ⟨k, hk, rfl, hf⟩ := hrel
    by_cases hlt : k < 16
    · have ha := Lib.hid (sml_at k hlt)
      have hb := Lib.hid (grt_at k hlt)
      by_cases e1 : ((((⟨#[48, 49, 50, 51, 52, 53, 54, 55, 56, 57, 97, 98, 99, 100, 101, 102]⟩ : ByteArray)[k]'hlt).toNat : Int) == (n : Int)) = true
      · have HH := Lib.hid (hex_hit n hn k hlt (.inl (by have := ha.out; simp only [beq_iff_eq] at e1; omega)))
        clear hf
        go_wp2
        go_ret2
        exact ⟨by rw [HH.out.1, HH.out.2]; rfl, rfl⟩
      · have e1' : ((((⟨#[48, 49, 50, 51, 52, 53, 54, 55, 56, 57, 97, 98, 99, 100, 101, 102]⟩ : ByteArray)[k]'hlt).toNat : Int) == (n : Int)) = false := by simpa using e1
        clear e1
        by_cases e2 : ((((⟨#[48, 49, 50, 51, 52, 53, 54, 55, 56, 57, 65, 66, 67, 68, 69, 70]⟩ : ByteArray)[k]'hlt).toNat : Int) == (n : Int)) = true
        · have HH := Lib.hid (hex_hit n hn k hlt (.inr (by have := hb.out; simp only [beq_iff_eq] at e2; omega)))
          clear hf
          go_wp2
          go_ret2
          exact ⟨by rw [HH.out.1, HH.out.2]; rfl, rfl⟩
        · have e2' : ((((⟨#[48, 49, 50, 51, 52, 53, 54, 55, 56, 57, 65, 66, 67, 68, 69, 70]⟩ : ByteArray)[k]'hlt).toNat : Int) == (n : Int)) = false := by simpa using e2
          clear e2
          have HF : Hid (∀ j : Nat, j < k + 1 → sml j ≠ n ∧ grt j ≠ n) := fun j hj => by
            by_cases e : j = k
            · subst e
              have h1 := ha.out
              have h2 := hb.out
              simp only [beq_eq_false_iff_ne, ne_eq] at e1' e2'
              omega
            · exact hf.out j (by omega)
          clear hf
          go_wp2
          go_round
          case rel => exact ⟨k + 1, by omega, by go_num, HF⟩
          case measure => simp [intOf]; omega
    · have HH := Lib.hid (hex_miss n hn (fun j hj => hf.out j (by omega)))
      clear hf
      go_wp2
      go_ret2
      exact ⟨by rw [HH.out.1, HH.out.2]; rfl, rfl⟩

theorem r_digit (n : Nat) (hn : n < 256) (w : World) :
    Calls Try.prog 15 #[.int .u8 n] w fun e w' => e = .returned (.bool (digB n)) ∧ w = w' := by
  have hd : ∀ n : Nat, n < 256 → digB n = (hexB n && decide (hexN n < 10)) := by decide +kernel
  have HD := Lib.hid (hd n hn)
  clear hd
  by_cases h : hexB n = true
  · have HB := Lib.hid h
    clear h
    go_enter Try.func15, Try.ntmps15
    go_wp2_with (go_at_call 9; refine (r_hex n hn _).mono ?_; rintro e w' ⟨he, rfl⟩; rw [HB.out] at he; subst he)
    go_ret
    exact ⟨by rw [HD.out, HB.out]; rfl, rfl⟩
  · have HB := Lib.hid (show hexB n = false by simpa using h)
    clear h
    go_enter Try.func15, Try.ntmps15
    go_wp2_with (go_at_call 9; refine (r_hex n hn _).mono ?_; rintro e w' ⟨he, rfl⟩; rw [HB.out] at he; subst he)
    go_ret
    exact ⟨by rw [HD.out, HB.out]; rfl, rfl⟩

theorem r_token (n : Nat) (hn : n < 256) (w : World) :
    Calls Try.prog 11 #[.int .u8 n] w fun e w' => e = .returned (.bool (tokB n)) ∧ w = w' := by
  by_cases hl : (rng 65 90 n || rng 97 122 n || rng 48 57 n) = true
  · have HT : Hid (tokB n = true) := by
      show _ = _
      unfold tokB
      simp only [Bool.or_eq_true] at hl ⊢
      rcases hl with (h | h) | h <;> simp [h]
    simp only [Bool.or_eq_true, rng_true] at hl
    rcases hl with (⟨a, b⟩ | ⟨a, b⟩) | ⟨a, b⟩
    · go_enter Try.func11, Try.ntmps11
      go_wp2
      go_ret
      exact ⟨by rw [HT.out]; rfl, rfl⟩
    · have h2 : ¬ (n : Int) ≤ 90 := by omega
      go_enter Try.func11, Try.ntmps11
      go_wp2
      go_ret
      exact ⟨by rw [HT.out]; rfl, rfl⟩
    · have h2 : ¬ (65 : Int) ≤ n := by omega
      have h3 : ¬ (97 : Int) ≤ n := by omega
      go_enter Try.func11, Try.ntmps11
      go_wp2
      go_ret
      exact ⟨by rw [HT.out]; rfl, rfl⟩
  · have hl' : (rng 65 90 n || rng 97 122 n || rng 48 57 n) = false := by simpa using hl
    have HL := Lib.hid hl'
    have n1 : ¬ (65 ≤ n ∧ n ≤ 90) := by simp only [Bool.or_eq_false_iff, rng_false] at hl'; omega
    have n2 : ¬ (97 ≤ n ∧ n ≤ 122) := by simp only [Bool.or_eq_false_iff, rng_false] at hl'; omega
    have n3 : ¬ (48 ≤ n ∧ n ≤ 57) := by simp only [Bool.or_eq_false_iff, rng_false] at hl'; omega
    clear hl hl'
    rcases (show n < 48 ∨ (57 < n ∧ n < 65) ∨ (90 < n ∧ n < 97) ∨ 122 < n by omega) with q | q | q | q
    · have m0 : ¬ (65 : Int) ≤ n := by omega
      have m1 : ¬ (97 : Int) ≤ n := by omega
      have m2 : ¬ (48 : Int) ≤ n := by omega
      clear q n1 n2 n3
      go_enter Try.func11, Try.ntmps11
      go_wp2
      go_loop [4] (fun i => ∃ k : Nat, k ≤ 15 ∧ i = .int .i64 k ∧ Hid (∀ j : Nat, j < k → mrk j ≠ n)) (fun i => 15 - (intOf i).toNat)
      case atStart => exact ⟨0, by omega, rfl, fun j h => absurd h (by omega)⟩
      case round =>
        obtain ⟨k, hk, rfl, hf⟩ := hrel
        by_cases hlt : k < 15
        · have ha := Lib.hid (mrk_at k hlt)
          by_cases e1 : ((((⟨#[33, 35, 36, 37, 38, 39, 42, 43, 45, 46, 94, 95, 96, 124, 126]⟩ : ByteArray)[k]'hlt).toNat : Int) == (n : Int)) = true
          · have HH := Lib.hid (tok_hit n hn k hlt (by have := ha.out; simp only [beq_iff_eq] at e1; omega))
            clear hf
            go_wp2
            go_ret
            exact ⟨by rw [HH.out]; rfl, rfl⟩
          · have e1' : ((((⟨#[33, 35, 36, 37, 38, 39, 42, 43, 45, 46, 94, 95, 96, 124, 126]⟩ : ByteArray)[k]'hlt).toNat : Int) == (n : Int)) = false := by simpa using e1
            clear e1
            have HF : Hid (∀ j : Nat, j < k + 1 → mrk j ≠ n) := fun j hj => by
              by_cases e : j = k
              · subst e
                have h1 := ha.out
                simp only [beq_eq_false_iff_ne, ne_eq] at e1'
                omega
              · exact hf.out j (by omega)
            clear hf
            go_wp2
            go_round
            case rel => exact ⟨k + 1, by omega, by go_num, HF⟩
            case measure => simp [intOf]; omega
        · have HH := Lib.hid (tok_miss n hn HL.out (fun j hj => hf.out j (by omega)))
          clear hf
          go_wp2
          go_ret
          exact ⟨by rw [HH.out]; rfl, rfl⟩
    · have m0 : ¬ (65 : Int) ≤ n := by omega
      have m1 : ¬ (97 : Int) ≤ n := by omega
      have m2 : (48 : Int) ≤ n := by omega
      have m3 : ¬ (n : Int) ≤ 57 := by omega
      clear q n1 n2 n3
      go_enter Try.func11, Try.ntmps11
      go_wp2
      go_loop [4] (fun i => ∃ k : Nat, k ≤ 15 ∧ i = .int .i64 k ∧ Hid (∀ j : Nat, j < k → mrk j ≠ n)) (fun i => 15 - (intOf i).toNat)
      case atStart => exact ⟨0, by omega, rfl, fun j h => absurd h (by omega)⟩
      case round =>
        obtain ⟨k, hk, rfl, hf⟩ := hrel
        by_cases hlt : k < 15
        · have ha := Lib.hid (mrk_at k hlt)
          by_cases e1 : ((((⟨#[33, 35, 36, 37, 38, 39, 42, 43, 45, 46, 94, 95, 96, 124, 126]⟩ : ByteArray)[k]'hlt).toNat : Int) == (n : Int)) = true
          · have HH := Lib.hid (tok_hit n hn k hlt (by have := ha.out; simp only [beq_iff_eq] at e1; omega))
            clear hf
            go_wp2
            go_ret
            exact ⟨by rw [HH.out]; rfl, rfl⟩
          · have e1' : ((((⟨#[33, 35, 36, 37, 38, 39, 42, 43, 45, 46, 94, 95, 96, 124, 126]⟩ : ByteArray)[k]'hlt).toNat : Int) == (n : Int)) = false := by simpa using e1
            clear e1
            have HF : Hid (∀ j : Nat, j < k + 1 → mrk j ≠ n) := fun j hj => by
              by_cases e : j = k
              · subst e
                have h1 := ha.out
                simp only [beq_eq_false_iff_ne, ne_eq] at e1'
                omega
              · exact hf.out j (by omega)
            clear hf
            go_wp2
            go_round
            case rel => exact ⟨k + 1, by omega, by go_num, HF⟩
            case measure => simp [intOf]; omega
        · have HH := Lib.hid (tok_miss n hn HL.out (fun j hj => hf.out j (by omega)))
          clear hf
          go_wp2
          go_ret
          exact ⟨by rw [HH.out]; rfl, rfl⟩
    · have m0 : (65 : Int) ≤ n := by omega
      have m1 : ¬ (n : Int) ≤ 90 := by omega
      have m2 : ¬ (97 : Int) ≤ n := by omega
      have m3 : (48 : Int) ≤ n := by omega
      have m4 : ¬ (n : Int) ≤ 57 := by omega
      clear q n1 n2 n3
      go_enter Try.func11, Try.ntmps11
      go_wp2
      go_loop [4] (fun i => ∃ k : Nat, k ≤ 15 ∧ i = .int .i64 k ∧ Hid (∀ j : Nat, j < k → mrk j ≠ n)) (fun i => 15 - (intOf i).toNat)
      case atStart => exact ⟨0, by omega, rfl, fun j h => absurd h (by omega)⟩
      case round =>
        obtain ⟨k, hk, rfl, hf⟩ := hrel
        by_cases hlt : k < 15
        · have ha := Lib.hid (mrk_at k hlt)
          by_cases e1 : ((((⟨#[33, 35, 36, 37, 38, 39, 42, 43, 45, 46, 94, 95, 96, 124, 126]⟩ : ByteArray)[k]'hlt).toNat : Int) == (n : Int)) = true
          · have HH := Lib.hid (tok_hit n hn k hlt (by have := ha.out; simp only [beq_iff_eq] at e1; omega))
            clear hf
            go_wp2
            go_ret
            exact ⟨by rw [HH.out]; rfl, rfl⟩
          · have e1' : ((((⟨#[33, 35, 36, 37, 38, 39, 42, 43, 45, 46, 94, 95, 96, 124, 126]⟩ : ByteArray)[k]'hlt).toNat : Int) == (n : Int)) = false := by simpa using e1
            clear e1
            have HF : Hid (∀ j : Nat, j < k + 1 → mrk j ≠ n) := fun j hj => by
              by_cases e : j = k
              · subst e
                have h1 := ha.out
                simp only [beq_eq_false_iff_ne, ne_eq] at e1'
                omega
              · exact hf.out j (by omega)
            clear hf
            go_wp2
            go_round
            case rel => exact ⟨k + 1, by omega, by go_num, HF⟩
            case measure => simp [intOf]; omega
        · have HH := Lib.hid (tok_miss n hn HL.out (fun j hj => hf.out j (by omega)))
          clear hf
          go_wp2
          go_ret
          exact ⟨by rw [HH.out]; rfl, rfl⟩
    · have m0 : (65 : Int) ≤ n := by omega
      have m1 : ¬ (n : Int) ≤ 90 := by omega
      have m2 : (97 : Int) ≤ n := by omega
      have m3 : ¬ (n : Int) ≤ 122 := by omega
      have m4 : (48 : Int) ≤ n := by omega
      have m5 : ¬ (n : Int) ≤ 57 := by omega
      clear q n1 n2 n3
      go_enter Try.func11, Try.ntmps11
      go_wp2
      go_loop [4] (fun i => ∃ k : Nat, k ≤ 15 ∧ i = .int .i64 k ∧ Hid (∀ j : Nat, j < k → mrk j ≠ n)) (fun i => 15 - (intOf i).toNat)
      case atStart => exact ⟨0, by omega, rfl, fun j h => absurd h (by omega)⟩
      case round =>
        obtain ⟨k, hk, rfl, hf⟩ := hrel
        by_cases hlt : k < 15
        · have ha := Lib.hid (mrk_at k hlt)
          by_cases e1 : ((((⟨#[33, 35, 36, 37, 38, 39, 42, 43, 45, 46, 94, 95, 96, 124, 126]⟩ : ByteArray)[k]'hlt).toNat : Int) == (n : Int)) = true
          · have HH := Lib.hid (tok_hit n hn k hlt (by have := ha.out; simp only [beq_iff_eq] at e1; omega))
            clear hf
            go_wp2
            go_ret
            exact ⟨by rw [HH.out]; rfl, rfl⟩
          · have e1' : ((((⟨#[33, 35, 36, 37, 38, 39, 42, 43, 45, 46, 94, 95, 96, 124, 126]⟩ : ByteArray)[k]'hlt).toNat : Int) == (n : Int)) = false := by simpa using e1
            clear e1
            have HF : Hid (∀ j : Nat, j < k + 1 → mrk j ≠ n) := fun j hj => by
              by_cases e : j = k
              · subst e
                have h1 := ha.out
                simp only [beq_eq_false_iff_ne, ne_eq] at e1'
                omega
              · exact hf.out j (by omega)
            clear hf
            go_wp2
            go_round
            case rel => exact ⟨k + 1, by omega, by go_num, HF⟩
            case measure => simp [intOf]; omega
        · have HH := Lib.hid (tok_miss n hn HL.out (fun j hj => hf.out j (by omega)))
          clear hf
          go_wp2
          go_ret
          exact ⟨by rw [HH.out]; rfl, rfl⟩

end Go.Proofs.Ytdgpbohidnnjfaa
