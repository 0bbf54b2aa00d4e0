/-
  Plain functions on numbers, without the program: a step of the state, its undoing, many steps, a hash (P5.1 to P5.4).
-/
import Derived.Laws.BitsAllLaws
namespace Go.Proofs.Ytlmolmbcpignkaa

/-- A number combined with itself moved down. -/
def foldN (s h : Nat) : Nat := h ^^^ h / 2 ^ s
def mulN (a b : Nat) : Nat := a * b % 18446744073709551616
/-- A byte's step. -/
def mixB (h : Nat) (x : UInt8) : Nat := foldN 29 (mulN (h ^^^ x.toNat) 1099511628211)
/-- What was folded by 29, unfolded. -/
def unfN (h : Nat) : Nat := h ^^^ h / 2 ^ 29 ^^^ h / 2 ^ 58
def undoN (h : Nat) (x : UInt8) : Nat := mulN (unfN h) 14886173955864302971 ^^^ x.toNat
/-- The state behind bytes. -/
def mixL (h : Nat) (l : List UInt8) : Nat := l.foldl mixB h
/-- A seed's start. -/
def seedN (seed : Int) : Nat := (seed % 18446744073709551616).toNat ^^^ 11400714819323198485
def hashN (seed : Int) (l : List UInt8) : Nat := foldN 32 (mulN (mixL (seedN seed) l ^^^ l.length) 11400714819323198485)

theorem xor_div (a b k : Nat) : (a ^^^ b) / 2 ^ k = a / 2 ^ k ^^^ b / 2 ^ k := by
  rw [← Nat.shiftRight_eq_div_pow, ← Nat.shiftRight_eq_div_pow, ← Nat.shiftRight_eq_div_pow, Nat.shiftRight_xor_distrib]
theorem div_div (a j k : Nat) : a / 2 ^ j / 2 ^ k = a / 2 ^ (j + k) := by rw [Nat.div_div_eq_div_mul, Nat.pow_add]
theorem div_none {a k : Nat} (h : a < 18446744073709551616) (hk : 64 ≤ k) : a / 2 ^ k = 0 := by
  have : (2 : Nat) ^ 64 ≤ 2 ^ k := Nat.pow_le_pow_right (by omega) hk
  exact Nat.div_eq_of_lt (by omega)
theorem xor_self_r (a b : Nat) : a ^^^ b ^^^ b = a := by rw [Nat.xor_assoc, Nat.xor_self, Nat.xor_zero]
theorem xor_lt64 {a b : Nat} (ha : a < 18446744073709551616) (hb : b < 18446744073709551616) : a ^^^ b < 18446744073709551616 := Nat.xor_lt_two_pow (n := 64) ha hb
theorem div_lt64 {a : Nat} (k : Nat) (ha : a < 18446744073709551616) : a / 2 ^ k < 18446744073709551616 := Nat.lt_of_le_of_lt (Nat.div_le_self _ _) ha
theorem foldN_lt {a : Nat} (s : Nat) (h : a < 18446744073709551616) : foldN s a < 18446744073709551616 := xor_lt64 h (div_lt64 s h)
theorem mulN_lt (a b : Nat) : mulN a b < 18446744073709551616 := Nat.mod_lt _ (by omega)
theorem unfN_lt {a : Nat} (h : a < 18446744073709551616) : unfN a < 18446744073709551616 := xor_lt64 (xor_lt64 h (div_lt64 _ h)) (div_lt64 _ h)
theorem x8 (x : UInt8) : x.toNat < 18446744073709551616 := Nat.lt_of_lt_of_le x.toNat_lt (by decide)
theorem mixB_lt (h : Nat) (x : UInt8) : mixB h x < 18446744073709551616 := foldN_lt _ (mulN_lt _ _)
theorem undoN_lt (h : Nat) (x : UInt8) : undoN h x < 18446744073709551616 := xor_lt64 (mulN_lt _ _) (x8 x)
theorem hashN_lt (s : Int) (l : List UInt8) : hashN s l < 18446744073709551616 := foldN_lt _ (mulN_lt _ _)

theorem unf_fold {p : Nat} (h : p < 18446744073709551616) : unfN (foldN 29 p) = p := by
  have h87 := div_none h (show 64 ≤ 87 by omega)
  unfold unfN foldN
  rw [xor_div, xor_div, div_div, div_div, h87, Nat.xor_zero]
  generalize p / 2 ^ 29 = a
  rw [show (29 + 29 : Nat) = 58 from rfl]
  generalize p / 2 ^ 58 = b
  rw [← Nat.xor_assoc, xor_self_r, xor_self_r]
theorem fold_unf {h : Nat} (hl : h < 18446744073709551616) : foldN 29 (unfN h) = h := by
  have h87 := div_none hl (show 64 ≤ 87 by omega)
  unfold unfN foldN
  rw [xor_div, xor_div, div_div, div_div, show (58 + 29 : Nat) = 87 from rfl, h87, Nat.xor_zero, show (29 + 29 : Nat) = 58 from rfl]
  generalize h / 2 ^ 29 = a
  generalize h / 2 ^ 58 = b
  rw [← Nat.xor_assoc, Nat.xor_assoc h a b, Nat.xor_comm a b, ← Nat.xor_assoc, xor_self_r, xor_self_r]
theorem fold32_twice {a : Nat} (h : a < 18446744073709551616) : foldN 32 (foldN 32 a) = a := by
  have h64 := div_none h (show 64 ≤ 64 by omega)
  unfold foldN
  rw [xor_div, div_div, show (32 + 32 : Nat) = 64 from rfl, h64, Nat.xor_zero, xor_self_r]
theorem fold32_inj {a b : Nat} (ha : a < 18446744073709551616) (hb : b < 18446744073709551616) (e : foldN 32 a = foldN 32 b) : a = b := by
  rw [← fold32_twice ha, e, fold32_twice hb]

theorem mul_back {a p q : Nat} (ha : a < 18446744073709551616) (hpq : p * q % 18446744073709551616 = 1) : mulN (mulN a p) q = a := by
  unfold mulN
  rw [Nat.mod_mul_mod, Nat.mul_assoc, ← Nat.mul_mod_mod, hpq, Nat.mul_one, Nat.mod_eq_of_lt ha]
theorem prime_inv : 1099511628211 * 14886173955864302971 % 18446744073709551616 = 1 := by decide +kernel
theorem inv_prime : 14886173955864302971 * 1099511628211 % 18446744073709551616 = 1 := by decide +kernel
theorem golden_inv : 11400714819323198485 * 17428512612931826493 % 18446744073709551616 = 1 := by decide +kernel

theorem undo_mix {h : Nat} (hl : h < 18446744073709551616) (x : UInt8) : undoN (mixB h x) x = h := by
  unfold undoN mixB
  rw [unf_fold (mulN_lt _ _), mul_back (xor_lt64 hl (x8 x)) prime_inv, xor_self_r]
theorem mix_undo {h : Nat} (hl : h < 18446744073709551616) (x : UInt8) : mixB (undoN h x) x = h := by
  unfold undoN mixB
  rw [xor_self_r, mul_back (unfN_lt hl) inv_prime, fold_unf hl]
theorem mixL_lt {h : Nat} (hl : h < 18446744073709551616) (l : List UInt8) : mixL h l < 18446744073709551616 := by
  unfold mixL
  induction l generalizing h with
  | nil => exact hl
  | cons x l ih => rw [List.foldl_cons]; exact ih (mixB_lt h x)
theorem mixL_snoc (h : Nat) (l : List UInt8) (x : UInt8) : mixL h (l ++ [x]) = mixB (mixL h l) x := by unfold mixL; rw [List.foldl_append, List.foldl_cons, List.foldl_nil]
theorem mixL_inj {a b : Nat} (ha : a < 18446744073709551616) (hb : b < 18446744073709551616) (l : List UInt8) (e : mixL a l = mixL b l) : a = b := by
  unfold mixL at e
  induction l generalizing a b with
  | nil => exact e
  | cons x l ih =>
    rw [List.foldl_cons, List.foldl_cons] at e
    have := ih (mixB_lt a x) (mixB_lt b x) e
    rw [← undo_mix ha x, this, undo_mix hb x]
theorem xor_inj_r {a b c : Nat} (e : a ^^^ c = b ^^^ c) : a = b := by rw [← xor_self_r a c, e, xor_self_r]
theorem seedN_lt (s : Int) : seedN s < 18446744073709551616 := xor_lt64 (by omega) (by omega)
theorem seedN_inj {a b : Int} (a0 : -9223372036854775808 ≤ a) (a1 : a ≤ 9223372036854775807) (b0 : -9223372036854775808 ≤ b) (b1 : b ≤ 9223372036854775807) (e : seedN a = seedN b) : a = b := by
  have := xor_inj_r e
  omega
theorem hashN_inj {a b : Int} (a0 : -9223372036854775808 ≤ a) (a1 : a ≤ 9223372036854775807) (b0 : -9223372036854775808 ≤ b) (b1 : b ≤ 9223372036854775807) (l : List UInt8) (hl : l.length < 18446744073709551616) (e : hashN a l = hashN b l) : a = b := by
  unfold hashN at e
  have e1 := fold32_inj (mulN_lt _ _) (mulN_lt _ _) e
  have e2 : mixL (seedN a) l ^^^ l.length = mixL (seedN b) l ^^^ l.length := by
    rw [← mul_back (xor_lt64 (mixL_lt (seedN_lt a) l) hl) golden_inv, e1, mul_back (xor_lt64 (mixL_lt (seedN_lt b) l) hl) golden_inv]
  exact seedN_inj a0 a1 b0 b1 (mixL_inj (seedN_lt a) (seedN_lt b) l (xor_inj_r e2))

/-- The bits of a number from the b-th on. -/
def topN (u b : Nat) : Nat := u / 2 ^ b * 2 ^ b
theorem topN_none {u : Nat} (h : u < 18446744073709551616) : topN u 64 = 0 := by unfold topN; rw [div_none h (Nat.le_refl _), Nat.zero_mul]
theorem topN_all (u : Nat) : topN u 0 = u := by unfold topN; rw [Nat.pow_zero, Nat.div_one, Nat.mul_one]
theorem topN_le (u b : Nat) : topN u b ≤ u := Nat.div_mul_le_self _ _
theorem topN_bit (u b : Nat) : topN u (b + 1) ||| u / 2 ^ b % 2 * 2 ^ b = topN u b := by
  have hp : (2 : Nat) ^ (b + 1) = 2 * 2 ^ b := by rw [Nat.pow_succ, Nat.mul_comm]
  have hs : u / 2 ^ (b + 1) = u / 2 ^ b / 2 := by rw [hp, Nat.mul_comm, ← Nat.div_div_eq_div_mul]
  have hb := Nat.mod_two_eq_zero_or_one (u / 2 ^ b)
  rw [nat_join (b + 1) _ _ (by unfold topN; exact Nat.mul_mod_left _ _) (by
    rw [hp]
    have : 0 < 2 ^ b := Nat.two_pow_pos b
    rcases hb with h | h <;> rw [h] <;> omega)]
  unfold topN
  rw [hs, hp]
  generalize u / 2 ^ b = v at *
  rw [← Nat.mul_assoc, ← Nat.add_mul]
  congr 1
  omega
/-- The bit that the unfolding sets. -/
theorem unf_bit {h : Nat} (hl : h < 18446744073709551616) (b : Nat) : h / 2 ^ b % 2 ^^^ unfN h / 2 ^ (b + 29) % 2 = unfN h / 2 ^ b % 2 := by
  obtain ⟨u, hu⟩ : ∃ u, u = unfN h := ⟨_, rfl⟩
  have e : h = u ^^^ u / 2 ^ 29 := by rw [hu]; exact (fold_unf hl).symm
  rw [← hu]
  conv => lhs; lhs; rw [e]
  rw [xor_div, div_div, Nat.add_comm b 29]
  generalize u / 2 ^ b = p
  generalize u / 2 ^ (29 + b) = q
  have e1 := @Nat.testBit_xor p q 0
  simp only [Nat.testBit_zero] at e1
  rcases Nat.mod_two_eq_zero_or_one p with hp | hp <;> rcases Nat.mod_two_eq_zero_or_one q with hq | hq <;> rcases Nat.mod_two_eq_zero_or_one (p ^^^ q) with hc | hc <;> simp [hp, hq, hc] at e1 ⊢
theorem top_up (u b : Nat) : topN u (b + 1) / 2 ^ (b + 29) = u / 2 ^ (b + 29) := by
  unfold topN
  rw [show b + 29 = (b + 1) + 28 by omega, ← div_div _ (b + 1) 28, ← div_div u (b + 1) 28, Nat.mul_div_cancel _ (Nat.two_pow_pos _)]

end Go.Proofs.Ytlmolmbcpignkaa
