/-
  Contracts of readPort and Authority of package target.
-/
import Derived.Test.YtcmppmbieebkpaaGreatDoorTgtA
import Derived.Test.YtcmppmbieebkpaaGreatDoorTarA
import Derived.Test.YtcmppmbieebkpaaGreatDoorDecN
import Derived.Test.YtcmppmbieebkpaaGreatDoorOctTr
import Derived.Test.YtcmppmbieebkpaaGreatDoorOctLo
namespace Go.Proofs.YtcmppmbieebkpaaGreatDoor
open Go.RowKit

def prtV (s : ByteArray) : Int := if s.size = 0 then 80 else if 5 < s.size then 0 else numN 10 18 65535 s.data.toList
def prtB (s : ByteArray) : Bool := if s.size = 0 then true else if 5 < s.size then false else (numE 10 18 65535 s.data.toList == 0) && decide (0 < numN 10 18 65535 s.data.toList)

set_option maxHeartbeats 2000000 in
set_option maxRecDepth 100000 in
theorem readPort_any (s : ByteArray) (w : World) :
    Calls Tryz.prog 27 #[.string s] w fun e w' => e = .returned (.tuple #[.int .i64 (prtV s), .bool (prtB s)]) ∧ Below w.heap.size w w' := by
  by_cases k1 : s.size = 0
  · have HR : Hid (prtV s = 80 ∧ prtB s = true) := by unfold prtV prtB; rw [if_pos k1, if_pos k1]; exact ⟨rfl, rfl⟩
    have e1 := empty_str k1
    go_enter Tryz.func27, Tryz.ntmps27
    go_wp2_with fail
    go_ret2
    exact ⟨by rw [HR.out.1, HR.out.2]; rfl, Below.refl _ _⟩
  have e1 := full_str k1
  by_cases k2 : 5 < s.size
  · have HR : Hid (prtV s = 0 ∧ prtB s = false) := by unfold prtV prtB; rw [if_neg k1, if_neg k1, if_pos k2, if_pos k2]; exact ⟨rfl, rfl⟩
    have e2 : (5 : Int) < (s.size : Int) := by omega
    go_enter Tryz.func27, Tryz.ntmps27
    go_wp2_with fail
    go_ret2
    exact ⟨by rw [HR.out.1, HR.out.2]; rfl, Below.refl _ _⟩
  have e2 : ¬ (5 : Int) < (s.size : Int) := by omega
  have HR : Hid (prtV s = numN 10 18 65535 s.data.toList ∧ prtB s = ((numE 10 18 65535 s.data.toList == 0) && decide (0 < numN 10 18 65535 s.data.toList))) := by unfold prtV prtB; rw [if_neg k1, if_neg k1, if_neg k2, if_neg k2]; exact ⟨rfl, rfl⟩
  have c := Number_any s 65535 w
  generalize numN 10 18 65535 s.data.toList = N at *
  generalize numE 10 18 65535 s.data.toList = E at *
  have C := Lib.hid c
  clear c
  cases hE : (E == 0) with
  | true =>
    rw [hE] at HR
    go_enter Tryz.func27, Tryz.ntmps27
    go_wp2_with fail
    refine (C.out).mono ?_
    rintro e w1 ⟨rfl, hb⟩
    go_wp2_with fail
    go_ret2
    exact ⟨by rw [HR.out.1, HR.out.2]; simp, hb⟩
  | false =>
    rw [hE] at HR
    go_enter Tryz.func27, Tryz.ntmps27
    go_wp2_with fail
    refine (C.out).mono ?_
    rintro e w1 ⟨rfl, hb⟩
    go_wp2_with fail
    go_ret2
    exact ⟨by rw [HR.out.1, HR.out.2]; simp, hb⟩

theorem auth_parts (s : ByteArray) : authO s = if prtB (cutZ s 58) = false ∨ isHostB (cutA s 58) = false then none else some (lowL (cutA s 58).data.toList, prtV (cutZ s 58)) := by
  unfold authO
  generalize cutA s 58 = A
  generalize cutZ s 58 = Z
  unfold isHostB prtB prtV
  by_cases h1 : A.size < 1 ∨ 253 < A.size ∨ allB hostB A.data.toList = false
  · rw [if_pos h1, if_pos]
    right
    rcases h1 with h | h | h
    · simp [show A.size = 0 by omega]
    · simp [show ¬ A.size ≤ 253 by omega]
    · simp [h]
  · rw [if_neg h1]
    have a1 : A.size ≠ 0 := fun e => h1 (.inl (by omega))
    have a2 : A.size ≤ 253 := by have : ¬ 253 < A.size := fun e => h1 (.inr (.inl e)); omega
    have a3 : allB hostB A.data.toList = true := by
      cases h : allB hostB A.data.toList with
      | true => rfl
      | false => exact absurd (.inr (.inr h)) h1
    by_cases h2 : Z.size = 0
    · simp [h2, a1, a2, a3]
    · by_cases h3 : 5 < Z.size
      · rw [if_neg h2, if_pos (.inr (.inr h3)), if_neg h2, if_pos h3, if_pos (.inl rfl)]
      · by_cases h4 : numE 10 18 65535 Z.data.toList = 0
        · by_cases h5 : numN 10 18 65535 Z.data.toList < 1
          · rw [if_neg h2, if_pos (.inr (.inl h5)), if_neg h2, if_neg h3, if_pos]
            left; simp; intro _; omega
          · rw [if_neg h2, if_neg (by omega), if_neg h2, if_neg h3, if_neg]
            · rw [if_neg h2, if_neg h3]
            · simp [h4, a1, a2, a3]; omega
        · rw [if_neg h2, if_pos (.inl h4), if_neg h2, if_neg h3, if_pos]
          left; simp [h4]

set_option maxHeartbeats 2000000 in
set_option maxRecDepth 100000 in
theorem authority_any (s : ByteArray) (w : World) (hs : s.size ≤ 1000000000) :
    Calls Tryz.prog 8 #[.string s] w fun e w' => e = .returned (.tuple #[.string (mkS (authH s)), .int .i64 (authP s), .int .i64 (authE s)]) ∧ Below w.heap.size w w' := by
  have cc := fun W => cut_any s 58 W (by unfold maxLen; omega) (by omega) (by omega)
  have hsz := (cut_sizes s 58).1
  rw [show (((58 : UInt8).toNat : Nat) : Int) = 58 from rfl] at hsz
  have hO := auth_parts s
  have cl := fun W => lower_any (cutA s 58) W (by unfold maxLen; omega)
  have ch := fun W => isHost_any (cutA s 58) W (by omega)
  have cp := fun W => readPort_any (cutZ s 58) W
  generalize cutA s 58 = A at *
  generalize cutZ s 58 = Z at *
  generalize cutOk s 58 = K at *
  generalize prtV Z = V at *
  have C := Lib.hid cc
  have CL := Lib.hid cl
  clear cc cl hsz
  cases h1 : prtB Z with
  | false =>
    rw [h1, if_pos (.inl rfl)] at hO
    rw [h1] at cp
    have HR := Lib.hid (auth_none hO)
    have CP := Lib.hid cp
    clear hO cp h1 ch
    go_enter Tryz.func8, Tryz.ntmps8
    go_wp2_with fail
    refine (C.out _).mono ?_
    rintro e w1 ⟨rfl, hb⟩
    go_wp2_with fail
    refine (CP.out _).mono ?_
    rintro e w2 ⟨rfl, hb2⟩
    go_wp2_with fail
    go_ret3
    exact ⟨by rw [HR.out.1, HR.out.2.1, HR.out.2.2]; rfl, below_then hb hb2⟩
  | true =>
    rw [h1] at cp hO
    have CP := Lib.hid cp
    cases h2 : isHostB A with
    | false =>
      rw [h2, if_pos (.inr rfl)] at hO
      rw [h2] at ch
      have HR := Lib.hid (auth_none hO)
      have CH := Lib.hid ch
      clear hO cp h1 ch h2
      go_enter Tryz.func8, Tryz.ntmps8
      go_wp2_with fail
      refine (C.out _).mono ?_
      rintro e w1 ⟨rfl, hb⟩
      go_wp2_with fail
      refine (CP.out _).mono ?_
      rintro e w2 ⟨rfl, hb2⟩
      have hb := below_then hb hb2
      clear hb2
      go_wp2_with fail
      refine (CH.out _).mono ?_
      rintro e w3 ⟨rfl, hb2⟩
      go_wp2_with fail
      go_ret3
      exact ⟨by rw [HR.out.1, HR.out.2.1, HR.out.2.2]; rfl, below_then hb hb2⟩
    | true =>
      rw [h2, if_neg (by simp)] at hO
      rw [h2] at ch
      have HR := Lib.hid (auth_some hO)
      have CH := Lib.hid ch
      clear hO cp h1 ch h2
      go_enter Tryz.func8, Tryz.ntmps8
      go_wp2_with fail
      refine (C.out _).mono ?_
      rintro e w1 ⟨rfl, hb⟩
      go_wp2_with fail
      refine (CP.out _).mono ?_
      rintro e w2 ⟨rfl, hb2⟩
      have hb := below_then hb hb2
      clear hb2
      go_wp2_with fail
      refine (CH.out _).mono ?_
      rintro e w3 ⟨rfl, hb2⟩
      have hb := below_then hb hb2
      clear hb2
      go_wp2_with fail
      refine (CL.out _).mono ?_
      rintro e w4 ⟨rfl, hb2⟩
      go_wp2_with fail
      go_ret3
      exact ⟨by rw [HR.out.1, HR.out.2.1, HR.out.2.2]; rfl, below_then hb hb2⟩

end Go.Proofs.YtcmppmbieebkpaaGreatDoor
