/-
  Bits turned in bytes: one bit of the long number (for the law on bursts).
-/
import Derived.Test.YtlhdpdcgbinmfaaCrcY
namespace Go.Proofs.Ytlhdpdcgbinmfaa
open Go.RowKit

theorem mul_xor (a b : Nat) : 256 * (a ^^^ b) = 256 * a ^^^ 256 * b := by
  have := Nat.shiftLeft_xor_distrib (a := a) (b := b) (i := 8)
  simp only [Nat.shiftLeft_eq] at this
  rw [show (2 : Nat) ^ 8 = 256 from rfl] at this
  rw [Nat.mul_comm 256, this, Nat.mul_comm 256, Nat.mul_comm 256]
theorem deL_set (l : List UInt8) (k : Nat) (hk : k < l.length) (x : UInt8) : deL (l.set k (l[k] ^^^ x)) = deL l ^^^ x.toNat * 2 ^ (8 * k) := by
  induction l generalizing k with
  | nil => simp at hk
  | cons y r ih =>
    cases k with
    | zero =>
      simp only [List.set_cons_zero, List.getElem_cons_zero, deL, Nat.mul_zero, Nat.pow_zero, Nat.mul_one]
      rw [← xor_put (y ^^^ x).toNat_lt, ← xor_put y.toNat_lt, UInt8.toNat_xor, Nat.xor_assoc, Nat.xor_comm x.toNat, ← Nat.xor_assoc]
    | succ k =>
      simp only [List.length_cons, Nat.add_lt_add_iff_right] at hk
      simp only [List.set_cons_succ, List.getElem_cons_succ, deL]
      have e : 256 * (x.toNat * 2 ^ (8 * k)) = x.toNat * 2 ^ (8 * (k + 1)) := by
        rw [show 8 * (k + 1) = 8 * k + 8 by omega, Nat.pow_add, show (2 : Nat) ^ 8 = 256 from rfl, Nat.mul_comm 256, Nat.mul_assoc]
      rw [ih k hk, ← xor_put y.toNat_lt, ← xor_put y.toNat_lt, mul_xor, ← Nat.xor_assoc, e]

/-- One bit turned. -/
def bitB (k : Nat) : UInt8 := UInt8.ofNat (2 ^ (k % 8))
theorem bitB_nat (k : Nat) : (bitB k).toNat = 2 ^ (k % 8) := by
  unfold bitB
  rw [UInt8.toNat_ofNat', Nat.mod_eq_of_lt]
  exact Nat.lt_of_lt_of_le (Nat.pow_lt_pow_right (by omega) (Nat.mod_lt k (show 0 < 8 by omega))) (by decide)
theorem deL_bit (l : List UInt8) (k : Nat) (hk : k / 8 < l.length) : deL (l.set (k / 8) (l[k / 8] ^^^ bitB k)) = deL l ^^^ 2 ^ k := by
  rw [deL_set l _ hk, bitB_nat, ← Nat.pow_add, show k % 8 + 8 * (k / 8) = k by omega]

/-- The bytes L are l, turned by the first j bits of M from bit f on. -/
structure Turned (l L : List UInt8) (M f j : Nat) : Prop where
  len : L.length = l.length
  num : ∀ i, (deL L).testBit i = ((deL l).testBit i ^^ (decide (f ≤ i) && (decide (i - f < j) && M.testBit (i - f))))
theorem Turned.zero (l : List UInt8) (M f : Nat) : Turned l l M f 0 := ⟨rfl, fun i => by simp⟩
theorem Turned.skip {l L : List UInt8} {M f j : Nat} (h : Turned l L M f j) (hb : M.testBit j = false) : Turned l L M f (j + 1) := ⟨h.len, fun i => by
  rw [h.num i]
  congr 2
  by_cases e : i - f = j
  · rw [e, hb]; simp
  · rw [show decide (i - f < j + 1) = decide (i - f < j) by rw [decide_eq_decide]; omega]⟩
theorem Turned.turn {l L : List UInt8} {M f j : Nat} (h : Turned l L M f j) (hb : M.testBit j = true) (hk : (f + j) / 8 < L.length) : Turned l (L.set ((f + j) / 8) (L[(f + j) / 8] ^^^ bitB (f + j))) M f (j + 1) :=
  ⟨by rw [List.length_set, h.len], fun i => by
    rw [deL_bit L _ hk, Nat.testBit_xor, h.num i, Nat.testBit_two_pow]
    by_cases hf : f ≤ i
    · by_cases e : i - f = j
      · rw [e, hb]
        simp [hf, show f + j = i by omega]
      · rw [show decide (i - f < j + 1) = decide (i - f < j) by rw [decide_eq_decide]; omega, show decide (f + j = i) = false by simp; omega]
        simp
    · rw [show decide (f + j = i) = false by simp; omega]
      simp [hf]⟩
theorem Turned.long {l L : List UInt8} {M f j : Nat} (h : Turned l L M f j) : deL L = deL l ^^^ M % 2 ^ j * 2 ^ f := by
  apply Nat.eq_of_testBit_eq
  intro i
  rw [h.num i, Nat.testBit_xor, ← Nat.shiftLeft_eq, Nat.testBit_shiftLeft, Nat.testBit_mod_two_pow]
/-- The sums are equal just where no bit is turned. -/
theorem Turned.sums {l L : List UInt8} {M f j : Nat} (h : Turned l L M f j) (hj : j ≤ 32) (hf : f ≤ 8 * l.length) : sumN L = sumN l ↔ M % 2 ^ j = 0 := by
  rw [sum_eq]
  refine burst _ L l h.len f _ ?_ hf h.long
  have h1 : M % 2 ^ j < 2 ^ j := Nat.mod_lt _ (Nat.pow_pos (by decide))
  have h2 : 2 ^ j ≤ 2 ^ 32 := Nat.pow_le_pow_right (by omega) hj
  have h3 : (2 : Nat) ^ 32 = 4294967296 := rfl
  omega
theorem mod_skip {M j : Nat} (hb : M.testBit j = false) : M % 2 ^ (j + 1) = M % 2 ^ j := by
  apply Nat.eq_of_testBit_eq
  intro i
  simp only [Nat.testBit_mod_two_pow]
  by_cases e : i = j
  · rw [e, hb]; simp
  · rw [show decide (i < j + 1) = decide (i < j) by rw [decide_eq_decide]; omega]
theorem mod_turn {M j : Nat} (hb : M.testBit j = true) : M % 2 ^ (j + 1) ≠ 0 := fun h => by
  have h1 := @Nat.testBit_mod_two_pow M (j + 1) j
  rw [h, hb] at h1
  simp at h1

/-- The row of the call's own that an append gives, cell by cell. -/
theorem Own8.row {w : World} {base e : Nat} {A : Option Addr} {n c : Nat} {X : List UInt8} (h : Own8 w base e (.slice A n c) X) (h0 : 0 < X.length) :
    ∃ G, base ≤ G ∧ A = some ⟨G, 0, none⟩ ∧ n = X.length ∧ Row8 w G X ∧ n ≤ c ∧ c ≤ maxLen := by
  rcases h.2 with ⟨_, hn⟩ | ⟨g, cap, cur, hv, hb, hg, hnc, hcm, hcs, ht⟩
  · omega
  · simp only [Value.slice.injEq] at hv
    obtain ⟨rfl, rfl, rfl⟩ := hv
    refine ⟨g, hb, rfl, rfl, ⟨(Array.getElem?_eq_some_iff.1 hg).1, fun j hj => ?_, fun j hj => by simp [World.frozen?, hg]⟩, hnc, hcm⟩
    have := World.ownsRow.cells h (g := g) rfl j (byV X[j]) (by rw [List.getElem?_map, List.getElem?_eq_getElem hj]; rfl)
    rw [addr_add] at this
    exact this
theorem Row8.sl8 {w : World} {G c : Nat} {l : List UInt8} (h : Row8 w G l) (hc : l.length ≤ c) (hm : c ≤ maxLen) : Sl8 w (some ⟨G, 0, none⟩) l.length c l :=
  ⟨rfl, hc, hm, (fun e => by cases e), fun _ => ⟨_, rfl, fun j x hx => by rw [addr_add]; exact (h.at hx).1⟩⟩

theorem and_bit (M j : Nat) (hM : M < 4294967296) (b : Bool) (hb : M.testBit j = b) : bits .and .u32 ((M : Int) / 2 ^ j) 1 = (b.toNat : Int) := by
  have h1 : M / 2 ^ j < 4294967296 := Nat.lt_of_le_of_lt (Nat.div_le_self _ _) hM
  have h := u32_and_nat (M / 2 ^ j) 1 h1 (by omega)
  rw [Nat.and_one_is_mod] at h
  rw [show (M : Int) / 2 ^ j = ((M / 2 ^ j : Nat) : Int) by simp]
  refine Eq.trans h ?_
  rw [← hb, Nat.testBit_eq_decide_div_mod_eq]
  rcases Nat.mod_two_eq_zero_or_one (M / 2 ^ j) with e | e <;> rw [e] <;> rfl

theorem turn_byte (y : UInt8) (k : Nat) : bits .xor .u8 (y.toNat : Int) (2 ^ (k % 8) % 256) = ((y ^^^ bitB k).toNat : Int) := by
  have h : ((2 : Int) ^ (k % 8) % 256) = ((bitB k).toNat : Int) := by
    have h1 := bitB_nat k
    have h2 := (bitB k).toNat_lt
    rw [show ((2 : Int) ^ (k % 8)) = ((2 ^ (k % 8) : Nat) : Int) by simp, ← h1]
    omega
  rw [h, xor_u8]

/-- A number of 32 bits that came in. -/
theorem u32_of {z : Int} (h : (Lit.int .u32 z).wf = true) : ∃ M : Nat, z = (M : Int) ∧ M < 4294967296 := by
  have hmin : IntKind.u32.min = 0 := rfl
  have hmax : IntKind.u32.max = 4294967295 := rfl
  simp only [Lit.wf, Bool.and_eq_true, decide_eq_true_eq] at h
  exact ⟨z.toNat, by omega, by omega⟩

end Go.Proofs.Ytlhdpdcgbinmfaa
