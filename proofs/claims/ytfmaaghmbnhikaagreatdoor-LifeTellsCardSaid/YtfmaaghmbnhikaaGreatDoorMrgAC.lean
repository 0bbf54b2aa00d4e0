/-
  Texts that the laws of this seat lean on, one behind the other.
-/
import Derived.Test.YtfmaaghmbnhikaaGreatDoorMrgS
import Derived.Test.YtfmaaghmbnhikaaGreatDoorMrgR
import Derived.Deep.RegionHeld3
/-
  Contracts of the reference's digits and time (layer 7).
-/
section
namespace Go.Proofs.YtfmaaghmbnhikaaGreatDoor
open Go.RowKit

/-- The number of n digits at a place of a text, or -1. -/
def dgtN (s : ByteArray) (a : Int) (n : Nat) : Int :=
  if 0 ≤ a ∧ a + n ≤ s.size then (if numE 10 18 9999 (piece s a.toNat (a.toNat + n)) = 0 then numN 10 18 9999 (piece s a.toNat (a.toNat + n)) else -1) else -1
theorem numN_bd (l : List UInt8) (h : numE 10 18 9999 l = 0) : 0 ≤ numN 10 18 9999 l ∧ numN 10 18 9999 l ≤ 9999 := by
  have hv := valV_nn (b := 10) (by omega) l
  unfold numE at h
  unfold numN
  split at h
  · cases h
  · split at h
    · cases h
    · split <;> omega
theorem dgtN_bd (s : ByteArray) (a : Int) (n : Nat) : -1 ≤ dgtN s a n ∧ dgtN s a n ≤ 9999 := by
  unfold dgtN
  split
  · split
    · rename_i h
      have := numN_bd _ h
      omega
    · omega
  · omega

theorem r_digits7 (s : ByteArray) (a : Int) (n : Nat) (hs : s.size ≤ 1000000000) (ha : -2000000000 ≤ a ∧ a ≤ 2000000000) (hn : n ≤ 4) (w : World) :
    Calls Tryz.prog 67 #[.string s, .int .i64 a, .int .i64 n] w fun e w' => e = .returned (.int .i64 (dgtN s a n)) ∧ w = w' := by
  by_cases h0 : a < 0
  · have HR : Hid (dgtN s a n = -1) := by show _ = _; unfold dgtN; rw [if_neg (by omega)]
    go_enter Tryz.func67, Tryz.ntmps67
    go_wp2_with fail
    go_ret
    exact ⟨by rw [HR.out]; rfl, rfl⟩
  by_cases h1 : (s.size : Int) < a + n
  · have HR : Hid (dgtN s a n = -1) := by show _ = _; unfold dgtN; rw [if_neg (by omega)]
    go_enter Tryz.func67, Tryz.ntmps67
    go_wp2_with fail
    go_ret
    exact ⟨by rw [HR.out]; rfl, rfl⟩
  obtain ⟨A, rfl⟩ := Int.eq_ofNat_of_zero_le (show 0 ≤ a by omega)
  have hx1 : (A : Int) + n ≤ (s.size : Int) := by omega
  have hx2 : (A : Int) ≤ (A : Int) + n := by omega
  have hx3 : (0 : Int) ≤ (A : Int) + n := by omega
  have hx4 : ((A : Int) + n).toNat = A + n := by omega
  have hp : (s.extract A (A + n)).data.toList = piece s A (A + n) := by rw [piece_ext]; rfl
  have c1 := fun W => r_number_any (s.extract A (A + n)) 9999 W (by unfold maxLen; simp; omega)
  rw [hp] at c1
  have hd : dgtN s (A : Int) n = if numE 10 18 9999 (piece s A (A + n)) = 0 then numN 10 18 9999 (piece s A (A + n)) else -1 := by
    unfold dgtN
    rw [if_pos ⟨by omega, by omega⟩, Int.toNat_natCast]
  rw [hd]
  clear hd hp
  generalize numN 10 18 9999 (piece s A (A + n)) = N at *
  generalize numE 10 18 9999 (piece s A (A + n)) = E at *
  have C1 := Lib.hid c1
  clear c1
  by_cases hE : E = 0
  · subst hE
    rw [if_pos rfl]
    go_enter Tryz.func67, Tryz.ntmps67
    go_wp2_with fail
    refine (C1.out _).mono ?_
    rintro e w' ⟨rfl, rfl⟩
    go_wp2_with fail
    go_ret
    exact ⟨rfl, rfl⟩
  · rw [if_neg hE]
    have hEb : (E == 0) = false := by rw [beq_eq_false_iff_ne]; exact hE
    go_enter Tryz.func67, Tryz.ntmps67
    go_wp2_with fail
    refine (C1.out _).mono ?_
    rintro e w' ⟨rfl, rfl⟩
    go_wp2_with fail
    go_ret
    exact ⟨rfl, rfl⟩

/-- The month of a name, or 13. -/
def mFind (l : List UInt8) : Nat → Nat → Nat
  | 0, m => m
  | f + 1, m => if monL m = l then m else mFind l f (m + 1)
def mIdx (l : List UInt8) : Nat := mFind l 12 1
theorem mFind_hit (l : List UInt8) (f m : Nat) (h : monL m = l) : mFind l (f + 1) m = m := by simp [mFind, h]
theorem mFind_miss (l : List UInt8) (f m : Nat) (h : ¬ monL m = l) : mFind l (f + 1) m = mFind l f (m + 1) := by simp [mFind, h]

/-- What a month and a clock of a date come to, or -1. -/
def sumN7 (y m d h i j : Int) : Int := if dayB y m d = true ∧ 0 ≤ h ∧ h ≤ 23 ∧ 0 ≤ i ∧ i ≤ 59 ∧ 0 ≤ j ∧ j ≤ 59 then dayV y m d * 86400 + h * 3600 + i * 60 + j else -1
def timN (s : ByteArray) (y a d k : Int) : Int :=
  if 0 ≤ a ∧ a + 3 ≤ s.size then
    (if mIdx (piece s a.toNat (a.toNat + 3)) = 13 then -1 else sumN7 y (mIdx (piece s a.toNat (a.toNat + 3)) : Nat) d (dgtN s k 2) (dgtN s (k + 3) 2) (dgtN s (k + 6) 2))
  else -1
theorem dayV_bd (y m d : Int) : 0 ≤ dayV y m d ∧ dayV y m d ≤ 2932896 := by
  unfold dayV
  split
  · rename_i h
    have := h.nat.le
    omega
  · omega

set_option maxHeartbeats 8000000 in
set_option maxRecDepth 100000 in
theorem r_time (s : ByteArray) (y a d k : Int) (hs : s.size ≤ 1000000000) (hy : -1000000 ≤ y ∧ y ≤ 1000000) (ha : -1000000000 ≤ a ∧ a ≤ 1000000100) (hd : -1000000 ≤ d ∧ d ≤ 1000000) (hk : -1000000000 ≤ k ∧ k ≤ 1000000100) (w : World) :
    Calls Tryz.prog 66 #[.string s, .int .i64 y, .int .i64 a, .int .i64 d, .int .i64 k] w fun e w' => e = .returned (.int .i64 (timN s y a d k)) ∧ Below w.heap.size w w' := by
  by_cases h0 : a < 0
  · have HR : Hid (timN s y a d k = -1) := by show _ = _; unfold timN; rw [if_neg (by omega)]
    go_enter Tryz.func66, Tryz.ntmps66
    go_wp2_with fail
    go_ret
    exact ⟨by rw [HR.out]; rfl, Below.refl _ _⟩
  by_cases h1 : (s.size : Int) < a + 3
  · have HR : Hid (timN s y a d k = -1) := by show _ = _; unfold timN; rw [if_neg (by omega)]
    go_enter Tryz.func66, Tryz.ntmps66
    go_wp2_with fail
    go_ret
    exact ⟨by rw [HR.out]; rfl, Below.refl _ _⟩
  obtain ⟨A, rfl⟩ := Int.eq_ofNat_of_zero_le (show 0 ≤ a by omega)
  have hx1 : (A : Int) + 3 ≤ (s.size : Int) := by omega
  have hx2 : (A : Int) ≤ (A : Int) + 3 := by omega
  have hx4 : ((A : Int) + 3).toNat = A + 3 := by omega
  have hx3 : (0 : Int) ≤ (A : Int) + 3 := by omega
  have hxw := Lib.hid (show IntKind.i64.wrap ((A : Int) + 3) = (A : Int) + 3 from IntWalk.i64_in _ (by omega))
  have ht : timN s y (A : Int) d k = if mIdx (piece s A (A + 3)) = 13 then -1 else sumN7 y (mIdx (piece s A (A + 3)) : Nat) d (dgtN s k 2) (dgtN s (k + 3) 2) (dgtN s (k + 6) 2) := by
    unfold timN
    rw [if_pos ⟨by omega, by omega⟩, Int.toNat_natCast]
  rw [ht]
  have HX := Lib.hid (piece_ext s A (A + 3))
  obtain ⟨l, hl⟩ : ∃ l, l = piece s A (A + 3) := ⟨_, rfl⟩
  rw [← hl] at HX ⊢
  clear ht hl
  have c1 := fun W => r_digits7 s k 2 hs (by omega) (by omega) W
  have c2 := fun W => r_digits7 s (k + 3) 2 hs (by omega) (by omega) W
  have c3 := fun W => r_digits7 s (k + 6) 2 hs (by omega) (by omega) W
  have d1 := dgtN_bd s k 2
  have d2 := dgtN_bd s (k + 3) 2
  have d3 := dgtN_bd s (k + 6) 2
  generalize dgtN s k 2 = H at *
  generalize dgtN s (k + 3) 2 = I at *
  generalize dgtN s (k + 6) 2 = J at *
  have C1 := Lib.hid c1
  have C2 := Lib.hid c2
  have C3 := Lib.hid c3
  clear c1 c2 c3
  obtain ⟨R, hR⟩ : ∃ R : Int, R = (if mIdx l = 13 then -1 else sumN7 y (mIdx l : Nat) d H I J) := ⟨_, rfl⟩
  rw [← hR]
  have HRR := Lib.hid hR
  clear hR
  go_enter Tryz.func66, Tryz.ntmps66
  go_wp2_with fail
  go_loopw [11] (fun i wr => ∃ m : Nat, 1 ≤ m ∧ m ≤ 13 ∧ i = .int .i64 m ∧ Hid (mIdx l = mFind l (13 - m) m) ∧ Below w.heap.size w wr) (fun i _ => 13 - (intOf i).toNat)
  case atStart => exact ⟨1, by omega, by omega, rfl, rfl, Below.refl _ _⟩
  case round =>
    obtain ⟨m, hm1, hm2, rfl, hf, hbel⟩ := hrel
    by_cases hm12 : m ≤ 12
    · have HC := same_list (monL m) l
      rw [← HX.out] at HC
      by_cases hmon : monL m = l
      · have hcmp : ((mkS (monL m)).toList == (s.extract A (A + 3)).toList) = true := by rw [HC, hmon]; simp
        have HM : Hid (mIdx l = m) := by
          show _ = _
          rw [hf.out, show 13 - m = (12 - m) + 1 by omega, mFind_hit _ _ _ hmon]
        have hv := dayV_bd y (m : Int) d
        have D1 := fun W => r_days y (m : Int) d (by omega) (by omega) (by omega) W
        obtain ⟨V, hV⟩ : ∃ V, V = dayV y (m : Int) d := ⟨_, rfl⟩
        obtain ⟨B, hB⟩ : ∃ B, B = dayB y (m : Int) d := ⟨_, rfl⟩
        have HV := Lib.hid hV
        have HBB := Lib.hid hB
        rw [← hV] at hv D1
        rw [← hB] at D1
        have D1 := Lib.hid D1
        have HI : Hid (R = sumN7 y (m : Nat) d H I J) := by
          show _ = _
          rw [HRR.out, HM.out, if_neg (by omega)]
        clear HC hmon hf hV hB
        cases B with
        | false =>
          have HS : Hid (sumN7 y (m : Nat) d H I J = -1) := by
            show _ = _
            unfold sumN7
            rw [if_neg (fun h => by have h1 := h.1; rw [← HBB.out] at h1; cases h1)]
          go_wp2_with fail
          have hbel := hbel.drew
          have hxv : IntKind.i64.wrap ((A : Int) + 3) = (A : Int) + 3 := hxw.out
          go_region_held3 (fun _ => True) (trivial) ((go_at_call 103; refine (r_month m hm1 hm12 _).mono ?_; rintro e w' ⟨rfl, rfl⟩))
          clear hxv
          go_wp2_with fail
          refine (D1.out _).mono ?_
          rintro e w2 ⟨rfl, hb2⟩
          have hbel := hbel.trans (hb2.mono hbel.size)
          clear hb2
          go_wp2_with fail
          refine (C1.out _).mono ?_
          rintro e w' ⟨rfl, rfl⟩
          go_wp2_with fail
          refine (C2.out _).mono ?_
          rintro e w' ⟨rfl, rfl⟩
          go_wp2_with fail
          refine (C3.out _).mono ?_
          rintro e w' ⟨rfl, rfl⟩
          go_wp2_with fail
          go_ret
          exact ⟨by rw [HI.out, HS.out]; rfl, hbel⟩
        | true =>
          by_cases k2 : H < 0
          · have HS : Hid (sumN7 y (m : Nat) d H I J = -1) := by
              show _ = _
              unfold sumN7
              rw [if_neg (fun h => by have h1 := h.2; omega)]
            go_wp2_with fail
            have hbel := hbel.drew
            have hxv : IntKind.i64.wrap ((A : Int) + 3) = (A : Int) + 3 := hxw.out
            go_region_held3 (fun _ => True) (trivial) ((go_at_call 103; refine (r_month m hm1 hm12 _).mono ?_; rintro e w' ⟨rfl, rfl⟩))
            clear hxv
            go_wp2_with fail
            refine (D1.out _).mono ?_
            rintro e w2 ⟨rfl, hb2⟩
            have hbel := hbel.trans (hb2.mono hbel.size)
            clear hb2
            go_wp2_with fail
            refine (C1.out _).mono ?_
            rintro e w' ⟨rfl, rfl⟩
            go_wp2_with fail
            refine (C2.out _).mono ?_
            rintro e w' ⟨rfl, rfl⟩
            go_wp2_with fail
            refine (C3.out _).mono ?_
            rintro e w' ⟨rfl, rfl⟩
            go_wp2_with fail
            go_ret
            exact ⟨by rw [HI.out, HS.out]; rfl, hbel⟩
          by_cases k3 : 23 < H
          · have HS : Hid (sumN7 y (m : Nat) d H I J = -1) := by
              show _ = _
              unfold sumN7
              rw [if_neg (fun h => by have h1 := h.2; omega)]
            go_wp2_with fail
            have hbel := hbel.drew
            have hxv : IntKind.i64.wrap ((A : Int) + 3) = (A : Int) + 3 := hxw.out
            go_region_held3 (fun _ => True) (trivial) ((go_at_call 103; refine (r_month m hm1 hm12 _).mono ?_; rintro e w' ⟨rfl, rfl⟩))
            clear hxv
            go_wp2_with fail
            refine (D1.out _).mono ?_
            rintro e w2 ⟨rfl, hb2⟩
            have hbel := hbel.trans (hb2.mono hbel.size)
            clear hb2
            go_wp2_with fail
            refine (C1.out _).mono ?_
            rintro e w' ⟨rfl, rfl⟩
            go_wp2_with fail
            refine (C2.out _).mono ?_
            rintro e w' ⟨rfl, rfl⟩
            go_wp2_with fail
            refine (C3.out _).mono ?_
            rintro e w' ⟨rfl, rfl⟩
            go_wp2_with fail
            go_ret
            exact ⟨by rw [HI.out, HS.out]; rfl, hbel⟩
          by_cases k4 : I < 0
          · have HS : Hid (sumN7 y (m : Nat) d H I J = -1) := by
              show _ = _
              unfold sumN7
              rw [if_neg (fun h => by have h1 := h.2; omega)]
            go_wp2_with fail
            have hbel := hbel.drew
            have hxv : IntKind.i64.wrap ((A : Int) + 3) = (A : Int) + 3 := hxw.out
            go_region_held3 (fun _ => True) (trivial) ((go_at_call 103; refine (r_month m hm1 hm12 _).mono ?_; rintro e w' ⟨rfl, rfl⟩))
            clear hxv
            go_wp2_with fail
            refine (D1.out _).mono ?_
            rintro e w2 ⟨rfl, hb2⟩
            have hbel := hbel.trans (hb2.mono hbel.size)
            clear hb2
            go_wp2_with fail
            refine (C1.out _).mono ?_
            rintro e w' ⟨rfl, rfl⟩
            go_wp2_with fail
            refine (C2.out _).mono ?_
            rintro e w' ⟨rfl, rfl⟩
            go_wp2_with fail
            refine (C3.out _).mono ?_
            rintro e w' ⟨rfl, rfl⟩
            go_wp2_with fail
            go_ret
            exact ⟨by rw [HI.out, HS.out]; rfl, hbel⟩
          by_cases k5 : 59 < I
          · have HS : Hid (sumN7 y (m : Nat) d H I J = -1) := by
              show _ = _
              unfold sumN7
              rw [if_neg (fun h => by have h1 := h.2; omega)]
            go_wp2_with fail
            have hbel := hbel.drew
            have hxv : IntKind.i64.wrap ((A : Int) + 3) = (A : Int) + 3 := hxw.out
            go_region_held3 (fun _ => True) (trivial) ((go_at_call 103; refine (r_month m hm1 hm12 _).mono ?_; rintro e w' ⟨rfl, rfl⟩))
            clear hxv
            go_wp2_with fail
            refine (D1.out _).mono ?_
            rintro e w2 ⟨rfl, hb2⟩
            have hbel := hbel.trans (hb2.mono hbel.size)
            clear hb2
            go_wp2_with fail
            refine (C1.out _).mono ?_
            rintro e w' ⟨rfl, rfl⟩
            go_wp2_with fail
            refine (C2.out _).mono ?_
            rintro e w' ⟨rfl, rfl⟩
            go_wp2_with fail
            refine (C3.out _).mono ?_
            rintro e w' ⟨rfl, rfl⟩
            go_wp2_with fail
            go_ret
            exact ⟨by rw [HI.out, HS.out]; rfl, hbel⟩
          by_cases k6 : J < 0
          · have HS : Hid (sumN7 y (m : Nat) d H I J = -1) := by
              show _ = _
              unfold sumN7
              rw [if_neg (fun h => by have h1 := h.2; omega)]
            go_wp2_with fail
            have hbel := hbel.drew
            have hxv : IntKind.i64.wrap ((A : Int) + 3) = (A : Int) + 3 := hxw.out
            go_region_held3 (fun _ => True) (trivial) ((go_at_call 103; refine (r_month m hm1 hm12 _).mono ?_; rintro e w' ⟨rfl, rfl⟩))
            clear hxv
            go_wp2_with fail
            refine (D1.out _).mono ?_
            rintro e w2 ⟨rfl, hb2⟩
            have hbel := hbel.trans (hb2.mono hbel.size)
            clear hb2
            go_wp2_with fail
            refine (C1.out _).mono ?_
            rintro e w' ⟨rfl, rfl⟩
            go_wp2_with fail
            refine (C2.out _).mono ?_
            rintro e w' ⟨rfl, rfl⟩
            go_wp2_with fail
            refine (C3.out _).mono ?_
            rintro e w' ⟨rfl, rfl⟩
            go_wp2_with fail
            go_ret
            exact ⟨by rw [HI.out, HS.out]; rfl, hbel⟩
          by_cases k7 : 59 < J
          · have HS : Hid (sumN7 y (m : Nat) d H I J = -1) := by
              show _ = _
              unfold sumN7
              rw [if_neg (fun h => by have h1 := h.2; omega)]
            go_wp2_with fail
            have hbel := hbel.drew
            have hxv : IntKind.i64.wrap ((A : Int) + 3) = (A : Int) + 3 := hxw.out
            go_region_held3 (fun _ => True) (trivial) ((go_at_call 103; refine (r_month m hm1 hm12 _).mono ?_; rintro e w' ⟨rfl, rfl⟩))
            clear hxv
            go_wp2_with fail
            refine (D1.out _).mono ?_
            rintro e w2 ⟨rfl, hb2⟩
            have hbel := hbel.trans (hb2.mono hbel.size)
            clear hb2
            go_wp2_with fail
            refine (C1.out _).mono ?_
            rintro e w' ⟨rfl, rfl⟩
            go_wp2_with fail
            refine (C2.out _).mono ?_
            rintro e w' ⟨rfl, rfl⟩
            go_wp2_with fail
            refine (C3.out _).mono ?_
            rintro e w' ⟨rfl, rfl⟩
            go_wp2_with fail
            go_ret
            exact ⟨by rw [HI.out, HS.out]; rfl, hbel⟩
          have HS : Hid (sumN7 y (m : Nat) d H I J = V * 86400 + H * 3600 + I * 60 + J) := by
            show _ = _
            unfold sumN7
            rw [if_pos ⟨HBB.out.symm, by omega, by omega, by omega, by omega, by omega, by omega⟩, ← HV.out]
          go_wp2_with fail
          have hbel := hbel.drew
          have hxv : IntKind.i64.wrap ((A : Int) + 3) = (A : Int) + 3 := hxw.out
          go_region_held3 (fun _ => True) (trivial) ((go_at_call 103; refine (r_month m hm1 hm12 _).mono ?_; rintro e w' ⟨rfl, rfl⟩))
          clear hxv
          go_wp2_with fail
          refine (D1.out _).mono ?_
          rintro e w2 ⟨rfl, hb2⟩
          have hbel := hbel.trans (hb2.mono hbel.size)
          clear hb2
          go_wp2_with fail
          refine (C1.out _).mono ?_
          rintro e w' ⟨rfl, rfl⟩
          go_wp2_with fail
          refine (C2.out _).mono ?_
          rintro e w' ⟨rfl, rfl⟩
          go_wp2_with fail
          refine (C3.out _).mono ?_
          rintro e w' ⟨rfl, rfl⟩
          go_wp2_with fail
          go_ret
          exact ⟨by rw [HI.out, HS.out]; rfl, hbel⟩
      · have hcmp : ((mkS (monL m)).toList == (s.extract A (A + 3)).toList) = false := by rw [HC]; simpa using hmon
        have HM : Hid (mIdx l = mFind l (13 - (m + 1)) (m + 1)) := by
          show _ = _
          rw [hf.out, show 13 - m = (13 - (m + 1)) + 1 by omega, mFind_miss _ _ _ hmon]
        clear HC hmon hf
        go_wp2_with fail
        have hbel := hbel.drew
        have hxv : IntKind.i64.wrap ((A : Int) + 3) = (A : Int) + 3 := hxw.out
        go_region_held3 (fun _ => True) (trivial) ((go_at_call 103; refine (r_month m hm1 hm12 _).mono ?_; rintro e w' ⟨rfl, rfl⟩))
        clear hxv
        go_wp2_with fail
        go_roundw
        case rel => exact ⟨m + 1, by omega, by omega, by go_num, HM, hbel⟩
        case measure => simp [intOf]; omega
    · have HI : Hid (R = -1) := by
        show _ = _
        have h13 : m = 13 := by omega
        rw [HRR.out, hf.out, h13]; rfl
      clear hf
      go_wp2_with fail
      go_ret
      exact ⟨by rw [HI.out]; rfl, hbel⟩

end Go.Proofs.YtfmaaghmbnhikaaGreatDoor
end
