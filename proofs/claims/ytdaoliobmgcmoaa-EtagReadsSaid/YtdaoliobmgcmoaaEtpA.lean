/-
  Contracts of package etag's inner, unquoted, Text, Strong, Weak.
-/
import Derived.Test.YtdaoliobmgcmoaaEtpM
import Derived.Test.YtdaoliobmgcmoaaShEtg
namespace Go.Proofs.Ytdaoliobmgcmoaa
open Go.RowKit
set_option linter.unusedSimpArgs false

theorem inner_any (c : Int) (w : World) (h0 : 0 ≤ c) (h1 : c ≤ 255) :
    Calls Try.prog 31 #[.int .u8 c] w fun e w' => e = .returned (.bool (innB c)) ∧ w = w' := by
  have both : ∀ t : Bool, t = true ∨ t = false := fun t => by cases t <;> simp
  rcases both (c == 33) with e1 | e1
  · have hr : innB c = true := by unfold innB; rw [e1]; rfl
    rw [hr]
    clear hr
    go_enter Try.func31, Try.ntmps31
    go_wp2_with fail
    go_ret
    exact ⟨rfl, rfl⟩
  · by_cases h2 : (35 : Int) ≤ c
    · by_cases h3 : c ≤ (126 : Int)
      · have hr : innB c = true := by
          have h4 : (c == 127) = false := by rw [beq_eq_false_iff_ne]; omega
          unfold innB
          rw [e1, h4, decide_eq_true h2]; rfl
        rw [hr]
        clear hr
        go_enter Try.func31, Try.ntmps31
        go_wp2_with fail
        go_ret
        exact ⟨rfl, rfl⟩
      · by_cases h5 : (128 : Int) ≤ c
        · have hr : innB c = true := by
            have h4 : (c == 127) = false := by rw [beq_eq_false_iff_ne]; omega
            unfold innB
            rw [e1, h4, decide_eq_true h2]; rfl
          rw [hr]
          clear hr
          go_enter Try.func31, Try.ntmps31
          go_wp2_with fail
          go_ret
          exact ⟨rfl, rfl⟩
        · have hr : innB c = false := by
            have h4 : (c == 127) = true := by rw [beq_iff_eq]; omega
            unfold innB
            rw [e1, h4]; simp
          rw [hr]
          clear hr
          go_enter Try.func31, Try.ntmps31
          go_wp2_with fail
          go_ret
          exact ⟨rfl, rfl⟩
    · have h5 : ¬ (128 : Int) ≤ c := by omega
      have hr : innB c = false := by unfold innB; rw [e1, decide_eq_false h2]; rfl
      rw [hr]
      clear hr
      go_enter Try.func31, Try.ntmps31
      go_wp2_with fail
      go_ret
      exact ⟨rfl, rfl⟩

set_option maxHeartbeats 4000000 in
set_option maxRecDepth 100000 in
theorem unq_any' (s : ByteArray) (w : World) (hs : s.size ≤ 100000000) :
    Calls Try.prog 22 #[.string s] w fun e w' => e = .returned (.tuple #[.string (unO s), .bool (unB s)]) ∧ w = w' := by
  have both : ∀ t : Bool, t = true ∨ t = false := fun t => by cases t <;> simp
  have c1 : ∀ W, Calls Try.prog 21 #[.string s, .string ⟨#[34]⟩] W fun e w' => e = .returned (.tuple #[.string (opR s), .bool (opB s)]) ∧ w' = W := fun W => Try.strings_CutPrefix s ⟨#[34]⟩ W
  have hr := opR_le s
  have c2 : ∀ W, Calls Try.prog 30 #[.string (opR s), .string ⟨#[34]⟩] W fun e w' => e = .returned (.tuple #[.string (clR (opR s)), .bool (clB (opR s))]) ∧ w' = W := fun W => Try.strings_CutSuffix (opR s) ⟨#[34]⟩ W (by omega)
  have hm := clR_le (opR s)
  rcases both (opB s) with ho | ho
  · rcases both (clB (opR s)) with hc | hc
    · have HY := Lib.hid (un_both ho hc)
      rw [ho] at c1
      rw [hc] at c2
      have hms : (clR (opR s)).size ≤ 100000000 := by omega
      have C1 := Lib.hid c1
      have C2 := Lib.hid c2
      clear c1 c2 ho hc hm hr
      generalize clR (opR s) = M at *
      generalize opR s = R at *
      go_enter Try.func22, Try.ntmps22
      go_wp2_with (first
        | (go_at_call 21; refine (C1.out _).mono ?_; rintro e w1 ⟨rfl, rfl⟩)
        | (go_at_call 30; refine (C2.out _).mono ?_; rintro e w1 ⟨rfl, rfl⟩))
      go_loop [27] (fun i => ∃ k : Nat, k ≤ M.size ∧ i = .int .i64 k ∧ Hid (allB innB (M.data.toList.take k) = true)) (fun i => M.size - (intOf i).toNat)
      case atStart => exact ⟨0, Nat.zero_le _, rfl, rfl⟩
      case round =>
        obtain ⟨k, hk, rfl, hf⟩ := hrel
        by_cases hlt : k < M.size
        · have hbd := byte_wf M[k]
          have ci := fun W => inner_any (M[k].toNat : Int) W hbd.1 hbd.2
          rcases both (innB (M[k].toNat : Int)) with hin | hin
          · have HA : Hid (allB innB (M.data.toList.take (k + 1)) = true) := by show _ = _; rw [allB_take innB M k hlt, hf.out, hin]; rfl
            rw [hin] at ci
            have CI := Lib.hid ci
            clear hin hf hbd ci
            go_wp2_with (go_at_call 31; refine (CI.out _).mono ?_; rintro e w1 ⟨rfl, rfl⟩)
            go_round
            case rel => exact ⟨k + 1, by omega, by go_num, HA⟩
            case measure => simp [intOf]; omega
          · have HA : Hid (allB innB M.data.toList = false) := allB_false innB M k hlt hin
            have HN := Lib.hid (un_no (HY.out.1.trans HA.out))
            have HN2 := Lib.hid (HY.out.1.trans HA.out)
            rw [hin] at ci
            have CI := Lib.hid ci
            clear hin hf hbd ci
            go_wp2_with (go_at_call 31; refine (CI.out _).mono ?_; rintro e w1 ⟨rfl, rfl⟩)
            go_ret2
            exact ⟨by rw [HN.out, HN2.out]; rfl, rfl⟩
        · have HA : Hid (allB innB M.data.toList = true) := allB_full innB M k (by omega) hf.out
          have HN2 := Lib.hid (HY.out.1.trans HA.out)
          have HN := Lib.hid ((un_yes HN2.out).trans HY.out.2)
          clear hf
          go_wp2_with fail
          go_ret2
          exact ⟨by rw [HN.out, HN2.out]; rfl, rfl⟩
    · have HN2 := Lib.hid (un_cl hc)
      have HN := Lib.hid (un_no HN2.out)
      rw [ho] at c1
      rw [hc] at c2
      have C1 := Lib.hid c1
      have C2 := Lib.hid c2
      clear c1 c2 ho hc hm hr
      generalize clR (opR s) = M at *
      generalize opR s = R at *
      go_enter Try.func22, Try.ntmps22
      go_wp2_with (first
        | (go_at_call 21; refine (C1.out _).mono ?_; rintro e w1 ⟨rfl, rfl⟩)
        | (go_at_call 30; refine (C2.out _).mono ?_; rintro e w1 ⟨rfl, rfl⟩))
      go_ret2
      exact ⟨by rw [HN.out, HN2.out]; rfl, rfl⟩
  · have HN2 := Lib.hid (un_op ho)
    have HN := Lib.hid (un_no HN2.out)
    rw [ho] at c1
    have C1 := Lib.hid c1
    have C2 := Lib.hid c2
    clear c1 c2 ho hm hr
    generalize clR (opR s) = M at *
    generalize clB (opR s) = b at *
    generalize opR s = R at *
    go_enter Try.func22, Try.ntmps22
    go_wp2_with (first
      | (go_at_call 21; refine (C1.out _).mono ?_; rintro e w1 ⟨rfl, rfl⟩)
      | (go_at_call 30; refine (C2.out _).mono ?_; rintro e w1 ⟨rfl, rfl⟩))
    go_ret2
    exact ⟨by rw [HN.out, HN2.out]; rfl, rfl⟩

end Go.Proofs.Ytdaoliobmgcmoaa
