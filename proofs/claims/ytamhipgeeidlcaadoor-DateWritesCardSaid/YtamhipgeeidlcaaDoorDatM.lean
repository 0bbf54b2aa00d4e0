/-
  Plain functions on days, without the program: leap years, the days of years and months, the date of a day, its day of the week (P7.1).
-/
import Derived.Test.YtamhipgeeidlcaaDoorDecM
import Derived.Test.YtamhipgeeidlcaaDoorComB
namespace Go.Proofs.YtamhipgeeidlcaaDoor

def leapN (y : Nat) : Bool := y % 4 == 0 && (y % 100 != 0 || y % 400 == 0)
def yearN (y : Nat) : Nat := if leapN y then 366 else 365
def longs : List Nat := [31, 28, 31, 30, 31, 30, 31, 31, 30, 31, 30, 31]
def longN (y m : Nat) : Nat := if m = 2 ∧ leapN y = true then 29 else longs.getD (m - 1) 0
/-- The days of the n years from 1970 on; of the first m months of a year. -/
def ysum : Nat → Nat
  | 0 => 0
  | n + 1 => ysum n + yearN (1970 + n)
def msum (y : Nat) : Nat → Nat
  | 0 => 0
  | m + 1 => msum y m + longN y (m + 1)
def daysN (y m d : Nat) : Nat := ysum (y - 1970) + msum y (m - 1) + (d - 1)
structure Valid (y m d : Nat) : Prop where
  y0 : 1970 ≤ y
  y1 : y ≤ 9999
  m0 : 1 ≤ m
  m1 : m ≤ 12
  d0 : 1 ≤ d
  d1 : d ≤ longN y m
/-- The date of a day. -/
structure IsDate (y m d n : Nat) : Prop where
  v : Valid y m d
  e : daysN y m d = n

theorem yearN_cs (y : Nat) : yearN y = 365 ∨ yearN y = 366 := by unfold yearN; split <;> simp
theorem long_bd (y m : Nat) (h0 : 1 ≤ m) (h1 : m ≤ 12) : 28 ≤ longN y m ∧ longN y m ≤ 31 := by
  have h : ∀ k : Nat, k < 12 → 28 ≤ longs.getD k 0 ∧ longs.getD k 0 ≤ 31 := by decide
  have := h (m - 1) (by omega)
  unfold longN
  split <;> omega
theorem msum_year (y : Nat) : msum y 12 = yearN y := by
  cases h : leapN y <;> simp [msum, longN, longs, yearN, h]
theorem ysum_succ (n : Nat) : ysum (n + 1) = ysum n + yearN (1970 + n) := rfl
theorem ysum_mono : ∀ (m k : Nat), ysum m ≤ ysum (m + k)
  | m, 0 => Nat.le_refl _
  | m, k + 1 => by
    have := ysum_mono m k
    rw [← Nat.add_assoc, ysum_succ]
    omega
theorem ysum_le {m n : Nat} (h : m ≤ n) : ysum m ≤ ysum n := by
  have := ysum_mono m (n - m)
  rwa [show m + (n - m) = n by omega] at this
theorem msum_succ (y m : Nat) : msum y (m + 1) = msum y m + longN y (m + 1) := rfl
theorem msum_mono (y : Nat) : ∀ (m k : Nat), msum y m ≤ msum y (m + k)
  | m, 0 => Nat.le_refl _
  | m, k + 1 => by
    have := msum_mono y m k
    rw [← Nat.add_assoc, msum_succ]
    omega
theorem msum_le {y m n : Nat} (h : m ≤ n) : msum y m ≤ msum y n := by
  have := msum_mono y m (n - m)
  rwa [show m + (n - m) = n by omega] at this
theorem ysum_all : ysum 8030 = 2932897 := by decide +kernel

/-- A date's day lies within its year, and within its month. -/
theorem Valid.within {y m d : Nat} (h : Valid y m d) : ysum (y - 1970) ≤ daysN y m d ∧ daysN y m d < ysum (y - 1970 + 1) ∧ msum y (m - 1) + (d - 1) < msum y m := by
  have h1 : msum y m = msum y (m - 1) + longN y m := by
    have := msum_succ y (m - 1)
    rwa [show m - 1 + 1 = m by have := h.m0; omega] at this
  have h2 : msum y m ≤ yearN y := by rw [← msum_year]; exact msum_le h.m1
  have h3 := ysum_succ (y - 1970)
  rw [show 1970 + (y - 1970) = y by have := h.y0; omega] at h3
  have := h.d0
  have := h.d1
  unfold daysN
  omega
theorem IsDate.uniq {y m d y' m' d' n : Nat} (h : IsDate y m d n) (g : IsDate y' m' d' n) : y = y' ∧ m = m' ∧ d = d' := by
  obtain ⟨h1, h2, h3⟩ := h.v.within
  obtain ⟨g1, g2, g3⟩ := g.v.within
  have hy0 := h.v.y0
  have gy0 := g.v.y0
  have hm0 := h.v.m0
  have gm0 := g.v.m0
  have hd0 := h.v.d0
  have gd0 := g.v.d0
  have he := h.e
  have ge := g.e
  have hyy : y = y' := by
    rcases Nat.lt_trichotomy y y' with hlt | rfl | hlt
    · have := ysum_le (show y - 1970 + 1 ≤ y' - 1970 by omega)
      omega
    · rfl
    · have := ysum_le (show y' - 1970 + 1 ≤ y - 1970 by omega)
      omega
  subst hyy
  unfold daysN at he ge
  have hmm : m = m' := by
    rcases Nat.lt_trichotomy m m' with hlt | rfl | hlt
    · have := msum_le (y := y) (show m ≤ m' - 1 by omega)
      omega
    · rfl
    · have := msum_le (y := y) (show m' ≤ m - 1 by omega)
      omega
  subst hmm
  exact ⟨rfl, rfl, by omega⟩

/-- The year of a day and what is left of it; its month and what is left of it. -/
def civY : Nat → Nat → Nat → Nat × Nat
  | 0, y, r => (y, r)
  | f + 1, y, r => if yearN y ≤ r then civY f (y + 1) (r - yearN y) else (y, r)
def civM (y : Nat) : Nat → Nat → Nat → Nat × Nat
  | 0, m, r => (m, r)
  | f + 1, m, r => if longN y m ≤ r then civM y f (m + 1) (r - longN y m) else (m, r)
def civ (n : Nat) : Nat × Nat × Nat :=
  let a := civY 8030 1970 n
  let b := civM a.1 12 1 a.2
  (a.1, b.1, b.2 + 1)
theorem civY_zero (y r : Nat) : civY 0 y r = (y, r) := rfl
theorem civY_succ (f y r : Nat) : civY (f + 1) y r = if yearN y ≤ r then civY f (y + 1) (r - yearN y) else (y, r) := rfl
theorem civM_zero (y m r : Nat) : civM y 0 m r = (m, r) := rfl
theorem civM_succ (y f m r : Nat) : civM y (f + 1) m r = if longN y m ≤ r then civM y f (m + 1) (r - longN y m) else (m, r) := rfl
theorem civY_spec (f : Nat) : ∀ (y r : Nat), 1970 ≤ y → ysum (y - 1970) + r < ysum (y - 1970 + f) → 1970 ≤ (civY f y r).1 ∧ (civY f y r).1 < y + f ∧ ysum ((civY f y r).1 - 1970) + (civY f y r).2 = ysum (y - 1970) + r ∧ (civY f y r).2 < yearN (civY f y r).1 := by
  induction f with
  | zero =>
    intro y r hy h
    rw [Nat.add_zero] at h
    omega
  | succ f ih =>
    intro y r hy h
    have h3 := ysum_succ (y - 1970)
    rw [show 1970 + (y - 1970) = y by omega] at h3
    rw [civY_succ]
    split
    · rename_i hle
      have e : y + 1 - 1970 = y - 1970 + 1 := by omega
      have := ih (y + 1) (r - yearN y) (by omega) (by rw [e, h3, show y - 1970 + 1 + f = y - 1970 + (f + 1) by omega]; omega)
      rw [e, h3] at this
      exact ⟨this.1, by omega, by omega, this.2.2.2⟩
    · exact ⟨hy, by omega, rfl, by simp only; omega⟩
theorem civM_spec (y : Nat) (f : Nat) : ∀ (m r : Nat), 1 ≤ m → msum y (m - 1) + r < msum y (m - 1 + f) → 1 ≤ (civM y f m r).1 ∧ (civM y f m r).1 < m + f ∧ msum y ((civM y f m r).1 - 1) + (civM y f m r).2 = msum y (m - 1) + r ∧ (civM y f m r).2 < longN y (civM y f m r).1 := by
  induction f with
  | zero =>
    intro m r hm h
    rw [Nat.add_zero] at h
    omega
  | succ f ih =>
    intro m r hm h
    have h3 := msum_succ y (m - 1)
    rw [show m - 1 + 1 = m by omega] at h3
    rw [civM_succ]
    split
    · rename_i hle
      have e : m + 1 - 1 = m := by omega
      have h4 : msum y (m + f) = msum y (m - 1 + (f + 1)) := by rw [show m + f = m - 1 + (f + 1) by omega]
      have := ih (m + 1) (r - longN y m) (by omega) (by rw [e, h4]; omega)
      rw [e] at this
      exact ⟨this.1, by omega, by omega, this.2.2.2⟩
    · exact ⟨hm, by omega, rfl, by simp only; omega⟩
theorem civ_date (n : Nat) (h : n ≤ 2932896) : IsDate (civ n).1 (civ n).2.1 (civ n).2.2 n := by
  have h1 := civY_spec 8030 1970 n (by omega) (by rw [show 1970 - 1970 = 0 from rfl, Nat.zero_add, ysum_all]; simp [ysum]; omega)
  have h2 := civM_spec (civY 8030 1970 n).1 12 1 (civY 8030 1970 n).2 (by omega) (by rw [show 1 - 1 = 0 from rfl, Nat.zero_add, msum_year]; simp [msum]; exact h1.2.2.2)
  unfold civ
  refine ⟨⟨h1.1, by have := h1.2.1; simp only; omega, h2.1, by have := h2.2.1; simp only; omega, by simp, by simp only; have := h2.2.2.2; omega⟩, ?_⟩
  unfold daysN
  have e1 := h1.2.2.1
  have e2 := h2.2.2.1
  simp only [ysum, msum, Nat.sub_self, Nat.zero_add] at e1 e2 ⊢
  omega
theorem civ_of {y m d n : Nat} (h : IsDate y m d n) (hn : n ≤ 2932896) : civ n = (y, m, d) := by
  obtain ⟨h1, h2, h3⟩ := (civ_date n hn).uniq h
  rw [← h1, ← h2, ← h3]
theorem Valid.le {y m d : Nat} (h : Valid y m d) : daysN y m d ≤ 2932896 := by
  have h1 := h.within.2.1
  have h2 := ysum_le (show y - 1970 + 1 ≤ 8030 by have := h.y1; omega)
  rw [ysum_all] at h2
  omega
def wdN (n : Int) : Int := if n < 0 then 0 else (n % 7 + 4) % 7

end Go.Proofs.YtamhipgeeidlcaaDoor
