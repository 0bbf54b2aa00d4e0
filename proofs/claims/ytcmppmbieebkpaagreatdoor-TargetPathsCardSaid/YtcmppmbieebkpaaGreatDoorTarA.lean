/-
  Contract of the reference's Authority (layer 8).
-/
import Derived.Test.YtcmppmbieebkpaaGreatDoorTarR
namespace Go.Proofs.YtcmppmbieebkpaaGreatDoor
open Go.RowKit

def authH (s : ByteArray) : List UInt8 := ((authO s).map (·.1)).getD []
def authP (s : ByteArray) : Int := ((authO s).map (·.2)).getD 0
def authE (s : ByteArray) : Int := if (authO s).isSome then 0 else 26
theorem auth_none {s : ByteArray} (h : authO s = none) : authH s = [] ∧ authP s = 0 ∧ authE s = 26 := by simp [authH, authP, authE, h]
theorem auth_some {s : ByteArray} {a : List UInt8} {p : Int} (h : authO s = some (a, p)) : authH s = a ∧ authP s = p ∧ authE s = 0 := by simp [authH, authP, authE, h]
theorem ret_sii {k l : IntKind} {a b : ByteArray} {c d e f : Int} (h : a = b) (g : c = d) (i : e = f) : Ending.returned (.tuple #[.string a, .int k c, .int l e]) = .returned (.tuple #[.string b, .int k d, .int l f]) := by rw [h, g, i]
theorem empty_str {s : ByteArray} (h : s.size = 0) : s.toList.isEmpty = true := by
  rw [Lib.toList_data, List.isEmpty_iff, ← List.length_eq_zero_iff, ← Lib.size_eq]; exact h
theorem full_str {s : ByteArray} (h : s.size ≠ 0) : s.toList.isEmpty = false := by
  rw [Lib.toList_data, ← Bool.not_eq_true, List.isEmpty_iff, ← List.length_eq_zero_iff, ← Lib.size_eq]; exact h
theorem cut_sizes (s : ByteArray) (c : UInt8) : (cutA s (c.toNat : Int)).size ≤ s.size ∧ (cutZ s (c.toNat : Int)).size ≤ s.size ∧ (cutOk s (c.toNat : Int) = false → (cutZ s (c.toNat : Int)).size = 0) := by
  have hs := Lib.size_eq s
  rcases cut_form s c with ⟨h1, _, h2, h3⟩ | ⟨a, b, hl, _, h1, h2, h3⟩
  · rw [h2, h3]
    exact ⟨Nat.le_refl _, Nat.zero_le _, fun _ => rfl⟩
  · rw [h2, h3, h1]
    rw [hl] at hs
    simp only [List.length_append, List.length_cons] at hs
    refine ⟨by rw [mkS_size]; omega, by rw [mkS_size]; omega, fun h => by cases h⟩

set_option maxHeartbeats 2000000 in
set_option maxRecDepth 100000 in
theorem r_auth (s : ByteArray) (w : World) (hs : s.size ≤ 1000000000) :
    Calls Tryz.prog 9 #[.string s] w fun e w' => e = .returned (.tuple #[.string (mkS (authH s)), .int .i64 (authP s), .int .i64 (authE s)]) ∧ Below w.heap.size w w' := by
  have cc := fun W => r_cut s 58 W (by unfold maxLen; omega) (by omega) (by omega)
  have hsz := cut_sizes s 58
  rw [show (((58 : UInt8).toNat : Nat) : Int) = 58 from rfl] at hsz
  have hO : authO s = if (cutA s 58).size < 1 ∨ 253 < (cutA s 58).size ∨ allB hostB (cutA s 58).data.toList = false then none
    else if (cutZ s 58).size = 0 then some (lowL (cutA s 58).data.toList, 80)
    else if numE 10 18 65535 (cutZ s 58).data.toList ≠ 0 ∨ numN 10 18 65535 (cutZ s 58).data.toList < 1 ∨ 5 < (cutZ s 58).size then none
    else some (lowL (cutA s 58).data.toList, numN 10 18 65535 (cutZ s 58).data.toList) := rfl
  have cn := fun W => r_number_any (cutZ s 58) 65535 W (by unfold maxLen; omega)
  have cl := fun W => r_lower (cutA s 58) W (by unfold maxLen; omega)
  generalize cutA s 58 = A at *
  generalize cutZ s 58 = Z at *
  generalize cutOk s 58 = K at *
  have C := Lib.hid cc
  have CN := Lib.hid cn
  have CL := Lib.hid cl
  clear cc cn cl
  have hA := Lib.hid (Lib.size_eq A)
  obtain ⟨s1, s2, s3⟩ := hsz
  have S3 := Lib.hid s3
  clear s3
  by_cases k1 : A.size < 1
  · rw [if_pos (.inl k1)] at hO
    have HR := Lib.hid (auth_none hO)
    have k1' : ¬ 1 ≤ (A.size : Int) := by omega
    have k1'' : (A.size : Int) < 1 := by omega
    clear hO
    go_enter Tryz.func9, Tryz.ntmps9
    go_wp2_with fail
    refine (C.out _).mono ?_
    rintro e w1 ⟨rfl, hb⟩
    go_wp2_with fail
    go_ret3
    exact ⟨by rw [HR.out.1, HR.out.2.1, HR.out.2.2]; rfl, hb⟩
  by_cases k2 : 253 < A.size
  · rw [if_pos (.inr (.inl k2))] at hO
    have HR := Lib.hid (auth_none hO)
    have k2' : (253 : Int) < (A.size : Int) := by omega
    have k1' : ¬ (A.size : Int) < 1 := by omega
    clear hO
    go_enter Tryz.func9, Tryz.ntmps9
    go_wp2_with fail
    refine (C.out _).mono ?_
    rintro e w1 ⟨rfl, hb⟩
    go_wp2_with fail
    go_ret3
    exact ⟨by rw [HR.out.1, HR.out.2.1, HR.out.2.2]; rfl, hb⟩
  have k1' : ¬ (A.size : Int) < 1 := by omega
  have k2' : ¬ (253 : Int) < (A.size : Int) := by omega
  have HO := Lib.hid hO
  clear hO
  go_enter Tryz.func9, Tryz.ntmps9
  go_wp2_with fail
  refine (C.out _).mono ?_
  rintro e w1 ⟨rfl, hb⟩
  go_wp2_with fail
  go_loopw [8] (fun i wr => ∃ k : Nat, k ≤ A.size ∧ i = .int .i64 (k : Int) ∧ Hid (allB hostB (A.data.toList.take k) = true) ∧ w1 = wr) (fun i _ => A.size - (intOf i).toNat)
  case atStart => exact ⟨0, Nat.zero_le _, rfl, rfl, rfl⟩
  case round =>
    obtain ⟨k, hk, rfl, hf, rfl⟩ := hrel
    by_cases hlt : k < A.size
    · have HN : Hid (allB hostB (A.data.toList.take (k + 1)) = (letB (A[k].toNat : Int) || hasB [45, 46] (A[k].toNat : Int))) := by
        show _ = _
        rw [allB_take hostB A k hlt, hf.out, Bool.true_and]; rfl
      have HF : Hid ((letB (A[k].toNat : Int) || hasB [45, 46] (A[k].toNat : Int)) = false → authO s = none) := fun h => by
        rw [HO.out, if_pos (.inr (.inr (allB_false hostB A k hlt h)))]
      have c1 := fun W => r_letter A[k].toNat W
      have c2 := fun W => r_in A[k].toNat ⟨#[45, 46]⟩ W (by decide)
      have e2 : (⟨#[45, 46]⟩ : ByteArray).data.toList = [45, 46] := rfl
      rw [e2] at c2
      clear hf e2
      rcases Bool.eq_false_or_eq_true (letB (A[k].toNat : Int)) with e | e
      · rw [e] at c1
        have HR : Hid (allB hostB (A.data.toList.take (k + 1)) = true) := by
          show _ = _
          rw [HN.out, e]; rfl
        have C1 := Lib.hid c1
        clear c1 c2 HN HF e
        go_wp2_with (go_at_call 30; refine (C1.out _).mono ?_; rintro e w' ⟨rfl, rfl⟩)
        go_roundw
        case rel => exact ⟨k + 1, by omega, by go_num, HR, by trivial⟩
        case measure => simp [intOf]; omega
      · rw [e] at c1
        rcases Bool.eq_false_or_eq_true (hasB [45, 46] (A[k].toNat : Int)) with e3 | e3
        · rw [e3] at c2
          have HR : Hid (allB hostB (A.data.toList.take (k + 1)) = true) := by
            show _ = _
            rw [HN.out, e3]; simp
          have C1 := Lib.hid c1
          have C2 := Lib.hid c2
          clear c1 c2 HN HF e e3
          go_wp2_with (first | (go_at_call 30; refine (C1.out _).mono ?_; rintro e w' ⟨rfl, rfl⟩) | (go_at_call 31; refine (C2.out _).mono ?_; rintro e w' ⟨rfl, rfl⟩))
          go_roundw
          case rel => exact ⟨k + 1, by omega, by go_num, HR, by trivial⟩
          case measure => simp [intOf]; omega
        · rw [e3] at c2
          have HR := Lib.hid (auth_none (HF.out (by rw [e, e3]; rfl)))
          have C1 := Lib.hid c1
          have C2 := Lib.hid c2
          clear c1 c2 HN HF e e3
          go_wp2_with (first | (go_at_call 30; refine (C1.out _).mono ?_; rintro e w' ⟨rfl, rfl⟩) | (go_at_call 31; refine (C2.out _).mono ?_; rintro e w' ⟨rfl, rfl⟩))
          go_ret3
          exact ⟨by rw [HR.out.1, HR.out.2.1, HR.out.2.2]; rfl, hb⟩
    · have hall : allB hostB A.data.toList = true := allB_full hostB A k (by omega) hf.out
      have hO := HO.out
      rw [if_neg (by rw [hall]; rintro (h | h | h); omega; omega; cases h)] at hO
      clear hf
      by_cases k3 : Z.size = 0
      · rw [if_pos k3] at hO
        have HR := Lib.hid (auth_some hO)
        have hem := empty_str k3
        clear hO
        cases K with
        | false =>
          go_wp2_with (go_at_call 33; refine (CL.out _).mono ?_; rintro e w2 ⟨rfl, hb2⟩)
          go_ret3
          exact ⟨by rw [HR.out.1, HR.out.2.1, HR.out.2.2]; rfl, below_then hb hb2⟩
        | true =>
          go_wp2_with (go_at_call 33; refine (CL.out _).mono ?_; rintro e w2 ⟨rfl, hb2⟩)
          go_ret3
          exact ⟨by rw [HR.out.1, HR.out.2.1, HR.out.2.2]; rfl, below_then hb hb2⟩
      · rw [if_neg k3] at hO
        have hK : K = true := by
          cases hk : K with
          | true => rfl
          | false => exact absurd (S3.out hk) k3
        subst hK
        have hem := full_str k3
        have cn := CN.out
        have hzs : Z.size ≤ 1000000000 := by omega
        generalize numN 10 18 65535 Z.data.toList = N at *
        generalize numE 10 18 65535 Z.data.toList = E at *
        have CN2 := Lib.hid cn
        clear cn CN
        by_cases k4 : E = 0
        · subst k4
          by_cases k5 : N < 1
          · rw [if_pos (.inr (.inl k5))] at hO
            have HR := Lib.hid (auth_none hO)
            clear hO
            go_wp2_with (go_at_call 32; refine (CN2.out _).mono ?_; rintro e w2 ⟨rfl, rfl⟩)
            go_ret3
            exact ⟨by rw [HR.out.1, HR.out.2.1, HR.out.2.2]; rfl, hb⟩
          · by_cases k6 : 5 < Z.size
            · rw [if_pos (.inr (.inr k6))] at hO
              have HR := Lib.hid (auth_none hO)
              have k6' : (5 : Int) < (Z.size : Int) := by omega
              clear hO
              go_wp2_with (go_at_call 32; refine (CN2.out _).mono ?_; rintro e w2 ⟨rfl, rfl⟩)
              go_ret3
              exact ⟨by rw [HR.out.1, HR.out.2.1, HR.out.2.2]; rfl, hb⟩
            · rw [if_neg (by rintro (h | h | h); exact h rfl; exact k5 h; exact k6 h)] at hO
              have HR := Lib.hid (auth_some hO)
              have k6' : ¬ (5 : Int) < (Z.size : Int) := by omega
              clear hO
              go_wp2_with (first | (go_at_call 32; refine (CN2.out _).mono ?_; rintro e w2 ⟨rfl, rfl⟩) | (go_at_call 33; refine (CL.out _).mono ?_; rintro e w2 ⟨rfl, hb2⟩))
              go_ret3
              exact ⟨by rw [HR.out.1, HR.out.2.1, HR.out.2.2]; rfl, below_then hb hb2⟩
        · rw [if_pos (.inl k4)] at hO
          have HR := Lib.hid (auth_none hO)
          have k4' : (E != 0) = true := by simpa using k4
          clear hO k4
          go_wp2_with (go_at_call 32; refine (CN2.out _).mono ?_; rintro e w2 ⟨rfl, rfl⟩)
          go_ret3
          exact ⟨by rw [HR.out.1, HR.out.2.1, HR.out.2.2]; rfl, hb⟩

end Go.Proofs.YtcmppmbieebkpaaGreatDoor
