/-
  Plain functions on bytes, without the program: an integer's bytes, the least significant one first, and the integer that bytes form (P3.1).
-/
import Derived.Test.YtlhdpdcgbinmfaaOctS
namespace Go.Proofs.Ytlhdpdcgbinmfaa

/-- The first k bytes of n. -/
def leL (n k : Nat) : List UInt8 := (List.range k).map fun i => UInt8.ofNat (n / 256 ^ i)
/-- The integer that bytes form. -/
def deL : List UInt8 → Nat
  | [] => 0
  | x :: r => x.toNat + 256 * deL r

theorem leL_len (n k : Nat) : (leL n k).length = k := by simp [leL]
theorem leL_zero (n : Nat) : leL n 0 = [] := rfl
theorem leL_succ (n k : Nat) : leL n (k + 1) = leL n k ++ [UInt8.ofNat (n / 256 ^ k)] := by simp [leL, List.range_succ]
theorem deL_snoc (l : List UInt8) (x : UInt8) : deL (l ++ [x]) = deL l + x.toNat * 256 ^ l.length := by
  induction l with
  | nil => simp [deL]
  | cons y r ih =>
    simp only [List.cons_append, deL, ih, List.length_cons, Nat.pow_succ, Nat.mul_add]
    rw [Nat.add_assoc]
    congr 2
    rw [← Nat.mul_assoc, Nat.mul_comm 256, Nat.mul_assoc, Nat.mul_comm 256]
theorem deL_lt (l : List UInt8) : deL l < 256 ^ l.length := by
  induction l with
  | nil => simp [deL]
  | cons y r ih =>
    have := y.toNat_lt
    simp only [deL, List.length_cons, Nat.pow_succ]
    omega
theorem deL_zeros (k : Nat) : deL (List.replicate k 0) = 0 := by
  induction k with
  | zero => rfl
  | succ k ih => simp [List.replicate_succ, deL, ih]
theorem deL_append (a b : List UInt8) : deL (a ++ b) = deL a + 256 ^ a.length * deL b := by
  induction a with
  | nil => simp [deL]
  | cons y r ih =>
    simp only [List.cons_append, deL, ih, List.length_cons, Nat.pow_succ, Nat.mul_add]
    rw [Nat.add_assoc, ← Nat.mul_assoc, Nat.mul_comm 256 (256 ^ r.length)]
theorem deL_leL (n k : Nat) : deL (leL n k) = n % 256 ^ k := by
  induction k with
  | zero => simp [leL, deL, Nat.mod_one]
  | succ k ih =>
    rw [leL_succ, deL_snoc, ih, leL_len, Nat.pow_succ, Nat.mod_mul, UInt8.toNat_ofNat']
    rw [Nat.mul_comm]
theorem deL_leL_of_lt {n k : Nat} (h : n < 256 ^ k) : deL (leL n k) = n := by rw [deL_leL, Nat.mod_eq_of_lt h]
theorem ofNat_byte (n : Nat) : ((UInt8.ofNat n).toNat : Int) = ((n % 256 : Nat) : Int) := by rw [UInt8.toNat_ofNat']
theorem pow_256 (k : Nat) : 256 ^ k = 2 ^ (8 * k) := by rw [Nat.pow_mul]
theorem or_put {a b k : Nat} (h : a < 256 ^ k) : a ||| (b <<< (8 * k)) = a + b * 256 ^ k := by
  rw [Nat.or_comm, ← Nat.shiftLeft_add_eq_or_of_lt (by rw [← pow_256]; exact h), Nat.shiftLeft_eq, ← pow_256]
  exact Nat.add_comm _ _
theorem pow_mono {a b : Nat} (h : a ≤ b) : 256 ^ a ≤ 256 ^ b := Nat.pow_le_pow_right (by omega) h
theorem pow_seven {k : Nat} (h : k ≤ 7) : 256 ^ k ≤ 72057594037927936 := pow_mono h

/-! ### What Put and Get answer -/
def wideB (k : Int) : Bool := decide (1 ≤ k) && decide (k ≤ 7)
theorem wideB_yes {k : Int} : wideB k = true ↔ 1 ≤ k ∧ k ≤ 7 := by simp [wideB]
theorem wideB_no {k : Int} : wideB k = false ↔ k < 1 ∨ 7 < k := by
  unfold wideB
  rw [Bool.and_eq_false_iff, decide_eq_false_iff_not, decide_eq_false_iff_not]
  omega
/-- The error of Put; its bytes. -/
def putE (n k : Int) : Int := if wideB k = false then 2 else if n < 0 ∨ (256 : Int) ^ k.toNat ≤ n then 3 else 0
def putL (l : List UInt8) (n k : Int) : List UInt8 := if putE n k = 0 then l ++ leL n.toNat k.toNat else []
/-- The error of Get; its integer. -/
def getE (l : List UInt8) (i k : Int) : Int := if wideB k = false then 2 else if i < 0 ∨ (l.length : Int) < i + k then 6 else 0
def getV (l : List UInt8) (i k : Int) : Int := if getE l i k = 0 then (deL ((l.drop i.toNat).take k.toNat) : Int) else 0
/-- The error of PutText; its bytes. -/
def ptE (s : List UInt8) : Int := if 65536 < s.length then 4 else 0
def ptL (l s : List UInt8) : List UInt8 := if ptE s = 0 then l ++ (leL s.length 4 ++ s) else []

theorem put_wide {n k : Int} (h : wideB k = false) (l : List UInt8) : putE n k = 2 ∧ putL l n k = [] := by
  have e : putE n k = 2 := by unfold putE; rw [if_pos h]
  exact ⟨e, by unfold putL; rw [e]; rfl⟩
theorem put_range {n k : Int} (h : wideB k = true) (hr : n < 0 ∨ (256 : Int) ^ k.toNat ≤ n) (l : List UInt8) : putE n k = 3 ∧ putL l n k = [] := by
  have e : putE n k = 3 := by unfold putE; rw [if_neg (by rw [h]; decide), if_pos hr]
  exact ⟨e, by unfold putL; rw [e]; rfl⟩
theorem put_ok {n k : Int} (h : wideB k = true) (hr : ¬ (n < 0 ∨ (256 : Int) ^ k.toNat ≤ n)) (l : List UInt8) : putE n k = 0 ∧ putL l n k = l ++ leL n.toNat k.toNat := by
  have e : putE n k = 0 := by unfold putE; rw [if_neg (by rw [h]; decide), if_neg hr]
  exact ⟨e, by unfold putL; rw [if_pos e]⟩
theorem get_wide {l : List UInt8} {i k : Int} (h : wideB k = false) : getE l i k = 2 ∧ getV l i k = 0 := by
  have e : getE l i k = 2 := by unfold getE; rw [if_pos h]
  exact ⟨e, by unfold getV; rw [e]; rfl⟩
theorem get_short {l : List UInt8} {i k : Int} (h : wideB k = true) (hr : i < 0 ∨ (l.length : Int) < i + k) : getE l i k = 6 ∧ getV l i k = 0 := by
  have e : getE l i k = 6 := by unfold getE; rw [if_neg (by rw [h]; decide), if_pos hr]
  exact ⟨e, by unfold getV; rw [e]; rfl⟩
theorem get_ok {l : List UInt8} {i k : Int} (h : wideB k = true) (hr : ¬ (i < 0 ∨ (l.length : Int) < i + k)) : getE l i k = 0 ∧ getV l i k = (deL ((l.drop i.toNat).take k.toNat) : Int) := by
  have e : getE l i k = 0 := by unfold getE; rw [if_neg (by rw [h]; decide), if_neg hr]
  exact ⟨e, by unfold getV; rw [if_pos e]⟩
theorem get_bd (l : List UInt8) (i k : Int) : 0 ≤ getV l i k ∧ getV l i k < 72057594037927936 := by
  unfold getV
  split
  · rename_i h
    have hk : wideB k = true := by
      cases hw : wideB k with
      | true => rfl
      | false => rw [(get_wide (l := l) (i := i) hw).1] at h; cases h
    obtain ⟨h1, h2⟩ := wideB_yes.1 hk
    have hl : ((l.drop i.toNat).take k.toNat).length ≤ k.toNat := by rw [List.length_take]; omega
    have := deL_lt ((l.drop i.toNat).take k.toNat)
    have := pow_mono hl
    have := pow_seven (k := k.toNat) (by omega)
    omega
  · omega
theorem pow_int (k : Nat) : (256 : Int) ^ k = ((256 ^ k : Nat) : Int) := by simp

end Go.Proofs.Ytlhdpdcgbinmfaa
