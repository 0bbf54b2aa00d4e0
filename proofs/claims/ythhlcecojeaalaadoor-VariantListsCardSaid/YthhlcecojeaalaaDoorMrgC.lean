/-
  Texts that the laws of this seat lean on, one behind the other.
-/
import Derived.WalkKit
import Derived.Below
import Derived.Lib.LaidTab
import Derived.Sort.Grow
import Derived.Deep.Draws
import Derived.Lib.Strings
import Derived.Test.YthhlcecojeaalaaDoorMrgA
import Derived.Lib.Join
import Derived.Test.YthhlcecojeaalaaDoorMrgB
set_option linter.unusedSimpArgs false
set_option linter.unusedVariables false
/-
  Small lemmas on worlds and endings that all layers use.
-/
section
namespace Go.Proofs.YthhlcecojeaalaaDoor
open Go.RowKit

theorem below_then {w a b : World} (h : Below w.heap.size w a) (k : Below a.heap.size a b) : Below w.heap.size w b := h.trans (k.mono h.size)
theorem below_drawn {B : Nat} {a w : World} (h : Below B a w) (n : Nat) : Below B a (w.drewN n) := ⟨h.os, h.tape, h.output, h.size, h.block⟩
theorem cell_kept {w w' : World} (hb : Below w.heap.size w w') {a : Addr} {v : Value} (hc : w.cell? a = some v) : w'.cell? a = some v := (hb.cell (World.block_lt_of_cell? w a hc)).trans hc

theorem ret_int {k : IntKind} {a b : Int} (h : a = b) : Ending.returned (.int k a) = .returned (.int k b) := by rw [h]
theorem ret_bool {a b : Bool} (h : a = b) : Ending.returned (.bool a) = .returned (.bool b) := by rw [h]
theorem append_list (a b : ByteArray) : (a ++ b).data.toList = a.data.toList ++ b.data.toList := by rw [ByteArray.data_append]; simp

end Go.Proofs.YthhlcecojeaalaaDoor
end

/-
  Plain functions on lists, without the program: the elements of a comma-separated list, quoted texts, and small facts about them (P6.1, P6.2, P6.4).
-/
section
namespace Go.Proofs.YthhlcecojeaalaaDoor

/-! ### Quoted parts: state 0 outside, 1 within, 2 behind a backslash within -/
def nxt (q : Nat) (c : UInt8) : Nat := if q = 2 then 1 else if q = 1 then (if c = 34 then 0 else if c = 92 then 2 else 1) else (if c = 34 then 1 else 0)
def addE (out : List (List UInt8)) (part : List UInt8) : List (List UInt8) := if trimL part = [] then out else out ++ [trimL part]
def spl (q : Nat) (part : List UInt8) (out : List (List UInt8)) : List UInt8 → Option (List (List UInt8))
  | [] => if q = 0 then some (addE out part) else none
  | c :: r => if q = 0 ∧ c = 44 then spl 0 [] (addE out part) r else spl (nxt q c) (part ++ [c]) out r
def splitL (l : List UInt8) : Option (List (List UInt8)) := spl 0 [] [] l
def splO (l : List UInt8) : List (List UInt8) := (splitL l).getD []
def splE (l : List UInt8) : Int := if (splitL l).isSome then 0 else 5
/-- How many bytes the rest of a quoted part takes. -/
def qEnd (q : Nat) : List UInt8 → Option Nat
  | [] => none
  | c :: r => if nxt q c = 0 then some 1 else (qEnd (nxt q c) r).map (· + 1)
/-- How many bytes an element takes. -/
def eEnd (q : Nat) : List UInt8 → Option Nat
  | [] => if q = 0 then some 0 else none
  | c :: r => if q = 0 ∧ c = 44 then some 0 else (eEnd (nxt q c) r).map (· + 1)

/-- The place behind the quoted part whose rest begins at m; the place of an element's end. -/
def qPos (s : ByteArray) (m : Nat) : Option Nat := (qEnd 1 (s.data.toList.drop m)).map (· + m)
def ePos (s : ByteArray) (m : Nat) : Option Nat := (eEnd 0 (s.data.toList.drop m)).map (· + m)
/-! ### What begins and ends outside of a quoted part, without a comma outside -/
def scn (q : Nat) : List UInt8 → Option Nat
  | [] => some q
  | c :: r => if q = 0 ∧ c = 44 then none else scn (nxt q c) r
structure Good (x : List UInt8) : Prop where
  bal : scn 0 x = some 0
  trim : trimL x = x
  ne : x ≠ []

/-! ### What is joined is split again -/
theorem join_le (L : List (List UInt8)) (n B : Nat) (hn : L.length ≤ n) (h : ∀ x ∈ L, x.length ≤ B) : (Lib.join L [44, 32]).length ≤ n * (B + 2) := by
  cases L with
  | nil => simp [Lib.join_nil]
  | cons x r =>
    rw [Lib.join_length]
    have : ∀ l : List (List UInt8), (∀ x ∈ l, x.length ≤ B) → Lib.lens l ≤ l.length * B := by
      intro l hl
      induction l with
      | nil => simp [Lib.lens]
      | cons a r ih =>
        have h1 := ih (fun x hx => hl x (by simp [hx]))
        have h2 := hl a (by simp)
        simp only [Lib.lens, List.map_cons, List.sum_cons, List.length_cons, Nat.succ_mul] at h1 ⊢
        omega
    have h1 := this _ h
    simp only [List.length_cons] at hn h1 ⊢
    have h2 : (r.length + 1) * B ≤ n * B := Nat.mul_le_mul_right B hn
    rw [Nat.mul_add]
    simp
    omega

/-! ### Quoted texts -/
def escB (c : UInt8) : List UInt8 := if c = 34 ∨ c = 92 then [92, c] else [c]
def escL (l : List UInt8) : List UInt8 := l.flatMap escB
def quoteL (l : List UInt8) : List UInt8 := 34 :: (escL l ++ [34])
def unqR (q : Nat) (t : List UInt8) : List UInt8 → Option (List UInt8)
  | [] => none
  | c :: r => if q = 1 ∧ c = 34 then (if r = [] then some t else none) else if q = 1 ∧ c = 92 then unqR 2 t r else unqR 1 (t ++ [c]) r
def unqL : List UInt8 → Option (List UInt8)
  | [] => none
  | c :: r => if c = 34 then unqR 1 [] r else none
def unqO (l : List UInt8) : List UInt8 := (unqL l).getD []
def unqE (l : List UInt8) : Int := if (unqL l).isSome then 0 else 5
/-- What stands within a quoted part, without the backslashes that bytes belong to. -/
def unesc (q : Nat) : List UInt8 → List UInt8
  | [] => []
  | c :: r => if q = 1 ∧ c = 92 then unesc 2 r else c :: unesc 1 r
/-- No quoted part ends here, and no backslash is left over. -/
def inn (q : Nat) : List UInt8 → Bool
  | [] => decide (q = 1)
  | c :: r => decide (nxt q c ≠ 0) && inn (nxt q c) r

/-! ### Tokens -/
def tokL (l : List UInt8) : Bool := !l.isEmpty && allB tokB l
/-! ### Unquoting by the place of the part's end -/
end Go.Proofs.YthhlcecojeaalaaDoor
end

/-
  Plain functions on days, without the program: leap years, the days of years and months, the date of a day, its day of the week (P7.1).
-/
section
namespace Go.Proofs.YthhlcecojeaalaaDoor

def leapN (y : Nat) : Bool := y % 4 == 0 && (y % 100 != 0 || y % 400 == 0)
def yearN (y : Nat) : Nat := if leapN y then 366 else 365
def longs : List Nat := [31, 28, 31, 30, 31, 30, 31, 31, 30, 31, 30, 31]
def longN (y m : Nat) : Nat := if m = 2 ∧ leapN y = true then 29 else longs.getD (m - 1) 0
/-- The days of the n years from 1970 on; of the first m months of a year. -/
def ysum : Nat → Nat
  | 0 => 0
  | n + 1 => ysum n + yearN (1970 + n)
def msum (y : Nat) : Nat → Nat
  | 0 => 0
  | m + 1 => msum y m + longN y (m + 1)
def daysN (y m d : Nat) : Nat := ysum (y - 1970) + msum y (m - 1) + (d - 1)
structure Valid (y m d : Nat) : Prop where
  y0 : 1970 ≤ y
  y1 : y ≤ 9999
  m0 : 1 ≤ m
  m1 : m ≤ 12
  d0 : 1 ≤ d
  d1 : d ≤ longN y m
/-- The date of a day. -/
structure IsDate (y m d n : Nat) : Prop where
  v : Valid y m d
  e : daysN y m d = n

theorem long_bd (y m : Nat) (h0 : 1 ≤ m) (h1 : m ≤ 12) : 28 ≤ longN y m ∧ longN y m ≤ 31 := by
  have h : ∀ k : Nat, k < 12 → 28 ≤ longs.getD k 0 ∧ longs.getD k 0 ≤ 31 := by decide
  have := h (m - 1) (by omega)
  unfold longN
  split <;> omega
theorem msum_year (y : Nat) : msum y 12 = yearN y := by
  cases h : leapN y <;> simp [msum, longN, longs, yearN, h]
theorem ysum_succ (n : Nat) : ysum (n + 1) = ysum n + yearN (1970 + n) := rfl
theorem ysum_mono : ∀ (m k : Nat), ysum m ≤ ysum (m + k)
  | m, 0 => Nat.le_refl _
  | m, k + 1 => by
    have := ysum_mono m k
    rw [← Nat.add_assoc, ysum_succ]
    omega
theorem ysum_le {m n : Nat} (h : m ≤ n) : ysum m ≤ ysum n := by
  have := ysum_mono m (n - m)
  rwa [show m + (n - m) = n by omega] at this
theorem msum_succ (y m : Nat) : msum y (m + 1) = msum y m + longN y (m + 1) := rfl
theorem msum_mono (y : Nat) : ∀ (m k : Nat), msum y m ≤ msum y (m + k)
  | m, 0 => Nat.le_refl _
  | m, k + 1 => by
    have := msum_mono y m k
    rw [← Nat.add_assoc, msum_succ]
    omega
theorem msum_le {y m n : Nat} (h : m ≤ n) : msum y m ≤ msum y n := by
  have := msum_mono y m (n - m)
  rwa [show m + (n - m) = n by omega] at this
theorem ysum_all : ysum 8030 = 2932897 := by decide +kernel

/-- A date's day lies within its year, and within its month. -/
theorem Valid.within {y m d : Nat} (h : Valid y m d) : ysum (y - 1970) ≤ daysN y m d ∧ daysN y m d < ysum (y - 1970 + 1) ∧ msum y (m - 1) + (d - 1) < msum y m := by
  have h1 : msum y m = msum y (m - 1) + longN y m := by
    have := msum_succ y (m - 1)
    rwa [show m - 1 + 1 = m by have := h.m0; omega] at this
  have h2 : msum y m ≤ yearN y := by rw [← msum_year]; exact msum_le h.m1
  have h3 := ysum_succ (y - 1970)
  rw [show 1970 + (y - 1970) = y by have := h.y0; omega] at h3
  have := h.d0
  have := h.d1
  unfold daysN
  omega
/-- The year of a day and what is left of it; its month and what is left of it. -/
def civY : Nat → Nat → Nat → Nat × Nat
  | 0, y, r => (y, r)
  | f + 1, y, r => if yearN y ≤ r then civY f (y + 1) (r - yearN y) else (y, r)
def civM (y : Nat) : Nat → Nat → Nat → Nat × Nat
  | 0, m, r => (m, r)
  | f + 1, m, r => if longN y m ≤ r then civM y f (m + 1) (r - longN y m) else (m, r)
def civ (n : Nat) : Nat × Nat × Nat :=
  let a := civY 8030 1970 n
  let b := civM a.1 12 1 a.2
  (a.1, b.1, b.2 + 1)
theorem Valid.le {y m d : Nat} (h : Valid y m d) : daysN y m d ≤ 2932896 := by
  have h1 := h.within.2.1
  have h2 := ysum_le (show y - 1970 + 1 ≤ 8030 by have := h.y1; omega)
  rw [ysum_all] at h2
  omega
def wdN (n : Int) : Int := if n < 0 then 0 else (n % 7 + 4) % 7

end Go.Proofs.YthhlcecojeaalaaDoor
end
