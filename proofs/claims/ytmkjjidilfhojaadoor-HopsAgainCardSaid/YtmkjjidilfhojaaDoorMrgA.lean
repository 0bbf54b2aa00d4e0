/-
  Texts that the laws of this seat lean on, one behind the other.
-/
import Derived.WalkKit
import Derived.Lib.Bytealg
/-
  Plain functions on bytes, without the program: which bytes a token, a value, a number may hold (P1.1), and small facts about them.
-/
section
namespace Go.Proofs.YtmkjjidilfhojaaDoor

def rng (lo hi c : Int) : Bool := decide (lo ≤ c) && decide (c ≤ hi)
def hasB (l : List UInt8) (c : Int) : Bool := l.any fun b => (b.toNat : Int) == c
def marks : List UInt8 := [33, 35, 36, 37, 38, 39, 42, 43, 45, 46, 94, 95, 96, 124, 126]
def tokB (c : Int) : Bool := rng 97 122 c || rng 65 90 c || rng 48 57 c || hasB marks c
def txtB (c : Int) : Bool := rng 9 9 c || rng 32 126 c || rng 128 255 c
def digB (c : Int) : Bool := rng 48 57 c
def hexB (c : Int) : Bool := rng 48 57 c || rng 97 102 c || rng 65 70 c
def hexN (c : Int) : Int := if rng 48 57 c then c - 48 else if rng 97 102 c then c - 87 else if rng 65 70 c then c - 55 else 0
def blkB (c : Int) : Bool := c == 32 || c == 9

theorem rng_true {lo hi c : Int} : rng lo hi c = true ↔ lo ≤ c ∧ c ≤ hi := by simp [rng]
theorem rng_false {lo hi c : Int} : rng lo hi c = false ↔ ¬ (lo ≤ c ∧ c ≤ hi) := by simp [rng]

/-- What holds of all 256 bytes holds of each byte. -/
theorem byte_all {α : Type} {p q : Int → α} (h : ∀ n : Nat, n < 256 → p n = q n) {c : Int} (h0 : 0 ≤ c) (h1 : c ≤ 255) : p c = q c := by
  have := h c.toNat (by omega)
  rwa [Int.toNat_of_nonneg h0] at this

theorem wf_byte {c : Int} (h : (Lit.int .u8 c).wf = true) : 0 ≤ c ∧ c ≤ 255 := by
  have hmin : IntKind.u8.min = 0 := rfl
  have hmax : IntKind.u8.max = 255 := rfl
  simp only [Lit.wf, Bool.and_eq_true, decide_eq_true_eq] at h
  omega

theorem byte_wf (b : UInt8) : (0 : Int) ≤ (b.toNat : Int) ∧ (b.toNat : Int) ≤ 255 := by
  have := b.toNat_lt
  omega

/-! ### Texts -/
def allB (p : Int → Bool) (l : List UInt8) : Bool := l.all fun b => p (b.toNat : Int)
theorem take_snoc (s : ByteArray) (k : Nat) (h : k < s.size) : s.data.toList.take (k + 1) = s.data.toList.take k ++ [s[k]] := by
  rw [List.take_succ_eq_append_getElem (by simpa using h)]; rfl
theorem allB_snoc (p : Int → Bool) (l : List UInt8) (c : UInt8) : allB p (l ++ [c]) = (allB p l && p (c.toNat : Int)) := by simp [allB]
theorem allB_take (p : Int → Bool) (s : ByteArray) (k : Nat) (h : k < s.size) : allB p (s.data.toList.take (k + 1)) = (allB p (s.data.toList.take k) && p (s[k].toNat : Int)) := by rw [take_snoc s k h, allB_snoc]
theorem allB_false (p : Int → Bool) (s : ByteArray) (k : Nat) (h : k < s.size) (hf : p (s[k].toNat : Int) = false) : allB p s.data.toList = false := by
  unfold allB
  rw [List.all_eq_false]
  exact ⟨s[k], by simp [ByteArray.getElem_eq_getElem_data], by simp [hf]⟩
theorem allB_full (p : Int → Bool) (s : ByteArray) (k : Nat) (h : s.size ≤ k) (hf : allB p (s.data.toList.take k) = true) : allB p s.data.toList = true := by
  rwa [List.take_of_length_le (by simpa using h)] at hf

end Go.Proofs.YtmkjjidilfhojaaDoor
end
