/-
  Texts that the laws of this seat lean on, one behind the other.
-/
import Derived.Test.YtfmaaghmbnhikaaGreatDoorMrgA
import Derived.Lib.ItoaNum
/-
  Plain functions of layer 2, without the program: digits to a base and what they denote, sums of seconds, and small facts about them (P2.1 to P2.5).
-/
section
namespace Go.Proofs.YtfmaaghmbnhikaaGreatDoor

/-! ### Seconds -/
def clampI (n : Int) : Int := if n < 0 then 0 else if n < 2147483648 then n else 2147483648
def addI (a b : Int) : Int := clampI (clampI a + clampI b)
def lessI (a b : Int) : Int := clampI (clampI a - clampI b)
theorem clampI_cs (n : Int) : (n < 0 ∧ clampI n = 0) ∨ (0 ≤ n ∧ n < 2147483648 ∧ clampI n = n) ∨ (2147483648 ≤ n ∧ clampI n = 2147483648) := by
  unfold clampI
  by_cases h1 : n < 0
  · rw [if_pos h1]; exact .inl ⟨h1, rfl⟩
  · by_cases h2 : n < 2147483648
    · rw [if_neg h1, if_pos h2]; exact .inr (.inl ⟨by omega, h2, rfl⟩)
    · rw [if_neg h1, if_neg h2]; exact .inr (.inr ⟨by omega, rfl⟩)
theorem clampI_bd (n : Int) : 0 ≤ clampI n ∧ clampI n ≤ 2147483648 := by have := clampI_cs n; omega
theorem addI_bd (a b : Int) : 0 ≤ addI a b ∧ addI a b ≤ 2147483648 := clampI_bd _
theorem addI_comm (a b : Int) : addI a b = addI b a := by unfold addI; rw [Int.add_comm]
theorem addI_assoc (a b c : Int) : addI (addI a b) c = addI a (addI b c) := by
  have ha := clampI_bd a
  have hb := clampI_bd b
  have hc := clampI_bd c
  unfold addI
  generalize clampI a = x at *
  generalize clampI b = y at *
  generalize clampI c = z at *
  have h1 := clampI_cs (x + y)
  have h2 := clampI_cs (y + z)
  generalize clampI (x + y) = u at *
  generalize clampI (y + z) = v at *
  have h3 := clampI_cs u
  have h4 := clampI_cs v
  generalize clampI u = p at *
  generalize clampI v = q at *
  have h5 := clampI_cs (p + z)
  have h6 := clampI_cs (x + q)
  generalize clampI (p + z) = r at *
  generalize clampI (x + q) = s at *
  obtain rfl : p = u := by omega
  obtain rfl : q = v := by omega
  clear h3 h4
  omega
theorem addI_mono (a b c : Int) (h : b ≤ c) : addI a b ≤ addI a c := by
  have ha := clampI_bd a
  have hb := clampI_cs b
  have hc := clampI_cs c
  unfold addI
  generalize clampI a = x at *
  generalize clampI b = y at *
  generalize clampI c = z at *
  have h1 := clampI_cs (x + y)
  have h2 := clampI_cs (x + z)
  generalize clampI (x + y) = u at *
  generalize clampI (x + z) = v at *
  have hyz : y ≤ z := by omega
  clear hb hc h
  omega
theorem lessI_back (a b : Int) (ha : 0 ≤ a) (hb : 0 ≤ b) (h : addI a b ≠ 2147483648) : lessI (addI a b) b = a := by
  revert h
  have h1 := clampI_cs a
  have h2 := clampI_cs b
  unfold lessI addI
  generalize clampI a = x at *
  generalize clampI b = y at *
  have h3 := clampI_cs (x + y)
  generalize clampI (x + y) = u at *
  intro h
  obtain rfl : x + y = u := by omega
  have h4 := clampI_cs (x + y)
  generalize clampI (x + y) = v at *
  have h5 := clampI_cs (v - y)
  generalize clampI (v - y) = r at *
  omega
theorem lessI_zero (a b : Int) (h : a ≤ b) : lessI a b = 0 := by
  have h1 := clampI_cs a
  have h2 := clampI_cs b
  unfold lessI
  generalize clampI a = x at *
  generalize clampI b = y at *
  have h3 := clampI_cs (x - y)
  generalize clampI (x - y) = r at *
  omega

/-! ### What digits denote -/
/-- What a character is worth as a digit; 99 if it is none. -/
def digV (c : Int) : Int := if rng 48 57 c then c - 48 else if rng 97 102 c then c - 87 else if rng 65 70 c then c - 55 else 99
theorem digV_nn (c : Int) : 0 ≤ digV c := by
  unfold digV
  repeat' split
  all_goals (try simp only [rng_true] at *)
  all_goals omega
theorem digV_big {c : Int} (h : 128 ≤ c) : digV c = 99 := by
  unfold digV
  rw [if_neg (by rw [rng_true]; omega), if_neg (by rw [rng_true]; omega), if_neg (by rw [rng_true]; omega)]
def isD (b : Int) (c : Int) : Bool := decide (digV c < b)
theorem isD_true {b c : Int} : isD b c = true ↔ digV c < b := by simp [isD]
theorem isD_false {b c : Int} : isD b c = false ↔ b ≤ digV c := by simp [isD]
theorem hex_digV : ∀ n : Nat, n < 256 → (hexB n = true → hexN n = digV n ∧ digV n < 16) ∧ (hexB n = false → digV n = 99) := by decide +kernel
theorem dig_digV : ∀ n : Nat, n < 256 → digB n = isD 10 n := by decide +kernel
theorem dig_val : ∀ n : Nat, n < 256 → digB n = true → digV n = (n : Int) - 48 := by decide +kernel

/-- What digits denote, cut behind each digit. -/
def cutV (b cut : Int) (l : List UInt8) : Int := l.foldl (fun n c => if n * b + digV (c.toNat : Int) < cut then n * b + digV (c.toNat : Int) else cut) 0
/-- What digits denote. -/
def valV (b : Int) (l : List UInt8) : Int := l.foldl (fun n c => n * b + digV (c.toNat : Int)) 0
theorem cutV_snoc (b cut : Int) (l : List UInt8) (c : UInt8) : cutV b cut (l ++ [c]) = if cutV b cut l * b + digV (c.toNat : Int) < cut then cutV b cut l * b + digV (c.toNat : Int) else cut := by unfold cutV; rw [List.foldl_append]; rfl
theorem valV_snoc (b : Int) (l : List UInt8) (c : UInt8) : valV b (l ++ [c]) = valV b l * b + digV (c.toNat : Int) := by simp [valV]
theorem cutV_nil (b cut : Int) : cutV b cut [] = 0 := rfl
theorem valV_nil (b : Int) : valV b [] = 0 := rfl
theorem cutV_take (b cut : Int) (s : ByteArray) (k : Nat) (h : k < s.size) : cutV b cut (s.data.toList.take (k + 1)) = if cutV b cut (s.data.toList.take k) * b + digV (s[k].toNat : Int) < cut then cutV b cut (s.data.toList.take k) * b + digV (s[k].toNat : Int) else cut := by rw [take_snoc s k h, cutV_snoc]
theorem valV_take (b : Int) (s : ByteArray) (k : Nat) (h : k < s.size) : valV b (s.data.toList.take (k + 1)) = valV b (s.data.toList.take k) * b + digV (s[k].toNat : Int) := by rw [take_snoc s k h, valV_snoc]

/-- A list, from its end. -/
theorem snoc_ind {α : Type} {P : List α → Prop} (h0 : P []) (h1 : ∀ l a, P l → P (l ++ [a])) : ∀ l, P l := by
  intro l
  have : ∀ n (l : List α), l.length = n → P l := by
    intro n
    induction n with
    | zero => intro l h; rw [List.length_eq_zero_iff] at h; subst h; exact h0
    | succ n ih =>
      intro l h
      obtain ⟨a, r, rfl⟩ : ∃ a r, l = r ++ [a] := by
        have hne : l ≠ [] := by intro e; subst e; simp at h
        exact ⟨l.getLast hne, l.dropLast, (List.dropLast_concat_getLast hne).symm⟩
      exact h1 r a (ih r (by simpa using h))
  exact this _ l rfl

theorem allB_append (p : Int → Bool) (l m : List UInt8) : allB p (l ++ m) = (allB p l && allB p m) := by simp [allB]
theorem allB_one (p : Int → Bool) (c : UInt8) : allB p [c] = p (c.toNat : Int) := by simp [allB]

theorem valV_nn {b : Int} (hb : 0 ≤ b) (l : List UInt8) : 0 ≤ valV b l := by
  induction l using snoc_ind with
  | h0 => simp [valV]
  | h1 l c ih =>
    rw [valV_snoc]
    have := digV_nn (c.toNat : Int)
    have := Int.mul_nonneg ih hb
    omega
theorem cutV_nn {b cut : Int} (hb : 0 ≤ b) (hc : 0 ≤ cut) (l : List UInt8) : 0 ≤ cutV b cut l := by
  induction l using snoc_ind with
  | h0 => simp [cutV]
  | h1 l c ih =>
    rw [cutV_snoc]
    have := digV_nn (c.toNat : Int)
    have := Int.mul_nonneg ih hb
    split <;> omega
theorem cutV_le {b cut : Int} (hc : 0 ≤ cut) (l : List UInt8) : cutV b cut l ≤ cut := by
  induction l using snoc_ind with
  | h0 => simpa [cutV] using hc
  | h1 l c ih => rw [cutV_snoc]; split <;> omega
theorem valV_lt (b : Nat) (l : List UInt8) (hb : 0 < b) (h : allB (isD b) l = true) : valV b l < ((b ^ l.length : Nat) : Int) := by
  induction l using snoc_ind with
  | h0 => simp [valV]
  | h1 l c ih =>
    rw [allB_append, allB_one, Bool.and_eq_true, isD_true] at h
    have := ih h.1
    have h2 := h.2
    rw [valV_snoc, List.length_append, List.length_singleton, Nat.pow_succ, Int.natCast_mul]
    have : (valV b l + 1) * (b : Int) ≤ ((b ^ l.length : Nat) : Int) * (b : Int) := Int.mul_le_mul_of_nonneg_right (by omega) (by omega)
    rw [Int.add_mul] at this
    omega
/-- Where the cut is not reached, nothing is cut. -/
theorem cutV_val (b : Nat) (cut : Int) (l : List UInt8) (hb : 0 < b) (h : allB (isD b) l = true) (hc : ((b ^ l.length : Nat) : Int) ≤ cut) : cutV b cut l = valV b l := by
  induction l using snoc_ind with
  | h0 => rfl
  | h1 l c ih =>
    have hlt := valV_lt b _ hb h
    rw [allB_append, allB_one, Bool.and_eq_true] at h
    have hle : ((b ^ l.length : Nat) : Int) ≤ ((b ^ (l ++ [c]).length : Nat) : Int) := by
      rw [List.length_append, List.length_singleton]
      exact_mod_cast Nat.pow_le_pow_right hb (Nat.le_succ _)
    rw [cutV_snoc, ih h.1 (by omega), ← valV_snoc, if_pos (by omega)]
/-- Cut behind each digit or once at the end: it is the same. -/
theorem cutV_min {b cut : Int} (hb : 1 ≤ b) (hc : 0 ≤ cut) (l : List UInt8) : cutV b cut l = if valV b l < cut then valV b l else cut := by
  induction l using snoc_ind with
  | h0 => rw [cutV_nil, valV_nil]; split <;> omega
  | h1 l c ih =>
    have hd := digV_nn (c.toNat : Int)
    have hv := valV_nn (b := b) (by omega) l
    rw [cutV_snoc, valV_snoc, ih]
    by_cases h : valV b l < cut
    · rw [if_pos h]
    · rw [if_neg h]
      have h1 : cut * 1 ≤ cut * b := Int.mul_le_mul_of_nonneg_left hb hc
      have h2 : cut * b ≤ valV b l * b := Int.mul_le_mul_of_nonneg_right (by omega) (by omega)
      rw [if_neg (by omega), if_neg (by omega)]

/-- The number that digits to a base denote, and the error's number: ErrForm 5, ErrRange 3 (P2.2). -/
def numN (b : Int) (long : Nat) (most : Int) (l : List UInt8) : Int := if l.length = 0 ∨ long < l.length ∨ allB (isD b) l = false ∨ most < valV b l then 0 else valV b l
def numE (b : Int) (long : Nat) (most : Int) (l : List UInt8) : Int := if l.length = 0 ∨ long < l.length ∨ allB (isD b) l = false then 5 else if most < valV b l then 3 else 0
/-- P2.3. -/
def secN (l : List UInt8) : Int := if allB (isD 10) l then cutV 10 2147483648 l else 0
def secB (l : List UInt8) : Bool := allB (isD 10) l && !l.isEmpty

/-! ### A number's digits -/
def dch (d : Nat) : UInt8 := if d < 10 then UInt8.ofNat (48 + d) else UInt8.ofNat (87 + d)
theorem dch_val : ∀ d : Nat, d < 16 → digV ((dch d).toNat : Int) = d := by decide +kernel
/-- The digits of u to the base b. -/
def digs (b u : Nat) : List UInt8 := if u < b ∨ b < 2 then [dch u] else digs b (u / b) ++ [dch (u % b)]
termination_by u
decreasing_by exact Nat.div_lt_self (by omega) (by omega)
theorem digs_small {b u : Nat} (h : u < b) : digs b u = [dch u] := by rw [digs, if_pos (.inl h)]
theorem digs_big {b u : Nat} (hb : 2 ≤ b) (h : b ≤ u) : digs b u = digs b (u / b) ++ [dch (u % b)] := by rw [digs, if_neg (by omega)]
theorem digs_ten (u : Nat) : Lib.decDigits u = digs 10 u := by
  induction u using Nat.strongRecOn with
  | _ u ih =>
    by_cases h : u < 10
    · rw [Lib.decDigits, dif_pos h, digs_small h]
      simp [dch, h]
    · rw [Lib.decDigits, dif_neg h, digs_big (by omega) (by omega), ih (u / 10) (by omega)]
      have : u % 10 < 10 := Nat.mod_lt _ (by omega)
      simp [dch, this]
theorem digs_val (b u : Nat) (hb : 2 ≤ b) (hs : b ≤ 16) : valV b (digs b u) = u ∧ allB (isD b) (digs b u) = true := by
  induction u using Nat.strongRecOn with
  | _ u ih =>
    by_cases h : u < b
    · rw [digs_small h, allB_one, isD_true, show ([dch u] : List UInt8) = [] ++ [dch u] from rfl, valV_snoc, valV_nil, dch_val u (by omega)]
      omega
    · obtain ⟨h1, h2⟩ := ih (u / b) (Nat.div_lt_self (by omega) (by omega))
      have hm : u % b < b := Nat.mod_lt _ (by omega)
      rw [digs_big hb (by omega), valV_snoc, allB_append, allB_one, h1, h2, dch_val _ (by omega), Bool.true_and, isD_true, dch_val _ (by omega)]
      refine ⟨?_, by omega⟩
      have := Nat.div_add_mod u b
      rw [Nat.mul_comm] at this
      exact_mod_cast this
theorem digs_pos (b u : Nat) : 1 ≤ (digs b u).length := by
  rw [digs]; split <;> simp
theorem digs_len (b k u : Nat) (hb : 2 ≤ b) (h : u < b ^ (k + 1)) : (digs b u).length ≤ k + 1 := by
  induction k generalizing u with
  | zero => rw [digs_small (by simpa using h)]; simp
  | succ k ih =>
    by_cases hu : u < b
    · rw [digs_small hu]; simp
    · rw [digs_big hb (by omega), List.length_append, List.length_singleton]
      have := ih (u / b) (by rw [Nat.div_lt_iff_lt_mul (by omega)]; rwa [Nat.pow_succ] at h)
      omega

/-- P2.1. -/
def plainL (n : Int) : List UInt8 := if n < 0 then 45 :: digs 10 n.natAbs else digs 10 n.toNat
theorem plainL_itoa (n : Int) : Lib.itoa n = plainL n := by unfold Lib.itoa plainL; rw [digs_ten, digs_ten]
theorem plainL_short (n : Int) (h0 : -9223372036854775808 ≤ n) (h1 : n ≤ 9223372036854775807) : (plainL n).length ≤ 20 := by
  unfold plainL
  have hp : (9223372036854775808 : Nat) < 10 ^ (18 + 1) := by decide +kernel
  split
  · rw [List.length_cons]
    have := digs_len 10 18 n.natAbs (by omega) (by omega)
    omega
  · have := digs_len 10 18 n.toNat (by omega) (by omega)
    omega
def padL (n width : Int) : List UInt8 := if n < 0 ∨ 9 < width then plainL n else List.replicate (width.toNat - (plainL n).length) 48 ++ plainL n
/-- P2.2. -/
def hexL (n : Int) : List UInt8 := if n < 0 then [] else digs 16 n.toNat

theorem val_zeros (b : Int) (k : Nat) (l : List UInt8) : valV b (List.replicate k 48 ++ l) = valV b l := by
  unfold valV
  rw [List.foldl_append]
  congr 1
  induction k with
  | zero => rfl
  | succ k ih => rw [List.replicate_succ', List.foldl_append, ih]; simp [digV, rng]
theorem all_zeros (b : Int) (hb : 0 < b) (k : Nat) : allB (isD b) (List.replicate k 48) = true := by
  unfold allB
  rw [List.all_eq_true]
  intro x hx
  rw [List.eq_of_mem_replicate hx, isD_true]
  simpa [digV, rng] using hb

theorem min_if (a : Int) (h : a ≤ 2147483648) : (if a < 2147483648 then a else 2147483648) = a := by
  by_cases h1 : a < 2147483648
  · rw [if_pos h1]
  · rw [if_neg h1]; omega

/-! ### P2.5: what was written comes back -/
theorem back_num (b : Nat) (long : Nat) (n : Nat) (l : List UInt8) (h1 : 1 ≤ l.length) (h2 : l.length ≤ long) (h3 : valV b l = n) (h4 : allB (isD b) l = true) : numN b long n l = n ∧ numE b long n l = 0 := by
  unfold numN numE
  have h5 : ¬ (l.length = 0 ∨ long < l.length ∨ allB (isD b) l = false) := by
    rw [h4]; rintro (h | h | h)
    · omega
    · omega
    · cases h
  have h6 : ¬ (l.length = 0 ∨ long < l.length ∨ allB (isD b) l = false ∨ (n : Int) < valV b l) := by
    rw [h4]; rintro (h | h | h | h)
    · omega
    · omega
    · cases h
    · omega
  rw [if_neg h6, if_neg h5, if_neg (by omega)]
  exact ⟨h3, rfl⟩
theorem back_plain (n : Nat) (h : n < 1000000000000000000) : numN 10 18 n (plainL n) = n ∧ numE 10 18 n (plainL n) = 0 := by
  have e : plainL n = digs 10 n := by unfold plainL; rw [if_neg (by omega)]; rfl
  obtain ⟨h1, h2⟩ := digs_val 10 n (by omega) (by omega)
  rw [e]
  exact back_num 10 18 n _ (digs_pos _ _) (digs_len 10 17 n (by omega) h) h1 h2
theorem back_hex (n : Nat) (h : n < 1000000000000000000) : numN 16 15 n (hexL n) = n ∧ numE 16 15 n (hexL n) = 0 := by
  have e : hexL n = digs 16 n := by unfold hexL; rw [if_neg (by omega)]; rfl
  obtain ⟨h1, h2⟩ := digs_val 16 n (by omega) (by omega)
  rw [e]
  exact back_num 16 15 n _ (digs_pos _ _) (digs_len 16 14 n (by omega) (by omega)) h1 h2
theorem back_pad (n : Nat) (width : Int) (h : n < 1000000000000000000) : numN 10 18 n (padL n width) = n ∧ numE 10 18 n (padL n width) = 0 := by
  unfold padL
  by_cases hw : 9 < width
  · rw [if_pos (.inr hw)]; exact back_plain n h
  · rw [if_neg (by omega)]
    have e : plainL n = digs 10 n := by unfold plainL; rw [if_neg (by omega)]; rfl
    obtain ⟨h1, h2⟩ := digs_val 10 n (by omega) (by omega)
    have h3 := digs_len 10 17 n (by omega) h
    have h4 := digs_pos 10 n
    rw [e]
    refine back_num 10 18 n _ ?_ ?_ ?_ ?_
    · rw [List.length_append]; omega
    · rw [List.length_append, List.length_replicate]; omega
    · exact_mod_cast (val_zeros 10 _ _).trans h1
    · rw [allB_append, all_zeros _ (by omega)]; exact h2
theorem back_sec (n : Nat) : secN (plainL n) = (if (n : Int) < 2147483648 then (n : Int) else 2147483648) ∧ secB (plainL n) = true := by
  have e : plainL n = digs 10 n := by unfold plainL; rw [if_neg (by omega)]; rfl
  obtain ⟨h1, h2⟩ := digs_val 10 n (by omega) (by omega)
  have h4 := digs_pos 10 n
  have h1' : valV 10 (digs 10 n) = n := h1
  have h2' : allB (isD 10) (digs 10 n) = true := h2
  rw [e]
  unfold secN secB
  rw [h2', if_pos rfl, cutV_min (by omega) (by omega), h1']
  refine ⟨rfl, ?_⟩
  cases hd : digs 10 n with
  | nil => rw [hd] at h4; simp at h4
  | cons x r => rfl

end Go.Proofs.YtfmaaghmbnhikaaGreatDoor
end
