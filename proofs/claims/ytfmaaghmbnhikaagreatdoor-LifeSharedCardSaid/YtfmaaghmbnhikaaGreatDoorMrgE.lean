/-
  Texts that the laws of this seat lean on, one behind the other.
-/
import Derived.Test.YtfmaaghmbnhikaaGreatDoorMrgB
import Derived.Test.YtfmaaghmbnhikaaGreatDoorMrgC
import Derived.LaidMore
import Derived.Lib.LaidTab
/-
  Plain functions on days, without the program: leap years, the days of years and months, the date of a day, its day of the week (P7.1).
-/
section
namespace Go.Proofs.YtfmaaghmbnhikaaGreatDoor

def leapN (y : Nat) : Bool := y % 4 == 0 && (y % 100 != 0 || y % 400 == 0)
def yearN (y : Nat) : Nat := if leapN y then 366 else 365
def longs : List Nat := [31, 28, 31, 30, 31, 30, 31, 31, 30, 31, 30, 31]
def longN (y m : Nat) : Nat := if m = 2 ∧ leapN y = true then 29 else longs.getD (m - 1) 0
/-- The days of the n years from 1970 on; of the first m months of a year. -/
def ysum : Nat → Nat
  | 0 => 0
  | n + 1 => ysum n + yearN (1970 + n)
def msum (y : Nat) : Nat → Nat
  | 0 => 0
  | m + 1 => msum y m + longN y (m + 1)
def daysN (y m d : Nat) : Nat := ysum (y - 1970) + msum y (m - 1) + (d - 1)
structure Valid (y m d : Nat) : Prop where
  y0 : 1970 ≤ y
  y1 : y ≤ 9999
  m0 : 1 ≤ m
  m1 : m ≤ 12
  d0 : 1 ≤ d
  d1 : d ≤ longN y m
/-- The date of a day. -/
structure IsDate (y m d n : Nat) : Prop where
  v : Valid y m d
  e : daysN y m d = n

theorem yearN_cs (y : Nat) : yearN y = 365 ∨ yearN y = 366 := by unfold yearN; split <;> simp
theorem long_bd (y m : Nat) (h0 : 1 ≤ m) (h1 : m ≤ 12) : 28 ≤ longN y m ∧ longN y m ≤ 31 := by
  have h : ∀ k : Nat, k < 12 → 28 ≤ longs.getD k 0 ∧ longs.getD k 0 ≤ 31 := by decide
  have := h (m - 1) (by omega)
  unfold longN
  split <;> omega
theorem msum_year (y : Nat) : msum y 12 = yearN y := by
  cases h : leapN y <;> simp [msum, longN, longs, yearN, h]
theorem ysum_succ (n : Nat) : ysum (n + 1) = ysum n + yearN (1970 + n) := rfl
theorem ysum_mono : ∀ (m k : Nat), ysum m ≤ ysum (m + k)
  | m, 0 => Nat.le_refl _
  | m, k + 1 => by
    have := ysum_mono m k
    rw [← Nat.add_assoc, ysum_succ]
    omega
theorem ysum_le {m n : Nat} (h : m ≤ n) : ysum m ≤ ysum n := by
  have := ysum_mono m (n - m)
  rwa [show m + (n - m) = n by omega] at this
theorem msum_succ (y m : Nat) : msum y (m + 1) = msum y m + longN y (m + 1) := rfl
theorem msum_mono (y : Nat) : ∀ (m k : Nat), msum y m ≤ msum y (m + k)
  | m, 0 => Nat.le_refl _
  | m, k + 1 => by
    have := msum_mono y m k
    rw [← Nat.add_assoc, msum_succ]
    omega
theorem msum_le {y m n : Nat} (h : m ≤ n) : msum y m ≤ msum y n := by
  have := msum_mono y m (n - m)
  rwa [show m + (n - m) = n by omega] at this
theorem ysum_all : ysum 8030 = 2932897 := by decide +kernel

/-- A date's day lies within its year, and within its month. -/
theorem Valid.within {y m d : Nat} (h : Valid y m d) : ysum (y - 1970) ≤ daysN y m d ∧ daysN y m d < ysum (y - 1970 + 1) ∧ msum y (m - 1) + (d - 1) < msum y m := by
  have h1 : msum y m = msum y (m - 1) + longN y m := by
    have := msum_succ y (m - 1)
    rwa [show m - 1 + 1 = m by have := h.m0; omega] at this
  have h2 : msum y m ≤ yearN y := by rw [← msum_year]; exact msum_le h.m1
  have h3 := ysum_succ (y - 1970)
  rw [show 1970 + (y - 1970) = y by have := h.y0; omega] at h3
  have := h.d0
  have := h.d1
  unfold daysN
  omega
theorem IsDate.uniq {y m d y' m' d' n : Nat} (h : IsDate y m d n) (g : IsDate y' m' d' n) : y = y' ∧ m = m' ∧ d = d' := by
  obtain ⟨h1, h2, h3⟩ := h.v.within
  obtain ⟨g1, g2, g3⟩ := g.v.within
  have hy0 := h.v.y0
  have gy0 := g.v.y0
  have hm0 := h.v.m0
  have gm0 := g.v.m0
  have hd0 := h.v.d0
  have gd0 := g.v.d0
  have he := h.e
  have ge := g.e
  have hyy : y = y' := by
    rcases Nat.lt_trichotomy y y' with hlt | rfl | hlt
    · have := ysum_le (show y - 1970 + 1 ≤ y' - 1970 by omega)
      omega
    · rfl
    · have := ysum_le (show y' - 1970 + 1 ≤ y - 1970 by omega)
      omega
  subst hyy
  unfold daysN at he ge
  have hmm : m = m' := by
    rcases Nat.lt_trichotomy m m' with hlt | rfl | hlt
    · have := msum_le (y := y) (show m ≤ m' - 1 by omega)
      omega
    · rfl
    · have := msum_le (y := y) (show m' ≤ m - 1 by omega)
      omega
  subst hmm
  exact ⟨rfl, rfl, by omega⟩

/-- The year of a day and what is left of it; its month and what is left of it. -/
def civY : Nat → Nat → Nat → Nat × Nat
  | 0, y, r => (y, r)
  | f + 1, y, r => if yearN y ≤ r then civY f (y + 1) (r - yearN y) else (y, r)
def civM (y : Nat) : Nat → Nat → Nat → Nat × Nat
  | 0, m, r => (m, r)
  | f + 1, m, r => if longN y m ≤ r then civM y f (m + 1) (r - longN y m) else (m, r)
def civ (n : Nat) : Nat × Nat × Nat :=
  let a := civY 8030 1970 n
  let b := civM a.1 12 1 a.2
  (a.1, b.1, b.2 + 1)
theorem civY_zero (y r : Nat) : civY 0 y r = (y, r) := rfl
theorem civY_succ (f y r : Nat) : civY (f + 1) y r = if yearN y ≤ r then civY f (y + 1) (r - yearN y) else (y, r) := rfl
theorem civM_zero (y m r : Nat) : civM y 0 m r = (m, r) := rfl
theorem civM_succ (y f m r : Nat) : civM y (f + 1) m r = if longN y m ≤ r then civM y f (m + 1) (r - longN y m) else (m, r) := rfl
theorem civY_spec (f : Nat) : ∀ (y r : Nat), 1970 ≤ y → ysum (y - 1970) + r < ysum (y - 1970 + f) → 1970 ≤ (civY f y r).1 ∧ (civY f y r).1 < y + f ∧ ysum ((civY f y r).1 - 1970) + (civY f y r).2 = ysum (y - 1970) + r ∧ (civY f y r).2 < yearN (civY f y r).1 := by
  induction f with
  | zero =>
    intro y r hy h
    rw [Nat.add_zero] at h
    omega
  | succ f ih =>
    intro y r hy h
    have h3 := ysum_succ (y - 1970)
    rw [show 1970 + (y - 1970) = y by omega] at h3
    rw [civY_succ]
    split
    · rename_i hle
      have e : y + 1 - 1970 = y - 1970 + 1 := by omega
      have := ih (y + 1) (r - yearN y) (by omega) (by rw [e, h3, show y - 1970 + 1 + f = y - 1970 + (f + 1) by omega]; omega)
      rw [e, h3] at this
      exact ⟨this.1, by omega, by omega, this.2.2.2⟩
    · exact ⟨hy, by omega, rfl, by simp only; omega⟩
theorem civM_spec (y : Nat) (f : Nat) : ∀ (m r : Nat), 1 ≤ m → msum y (m - 1) + r < msum y (m - 1 + f) → 1 ≤ (civM y f m r).1 ∧ (civM y f m r).1 < m + f ∧ msum y ((civM y f m r).1 - 1) + (civM y f m r).2 = msum y (m - 1) + r ∧ (civM y f m r).2 < longN y (civM y f m r).1 := by
  induction f with
  | zero =>
    intro m r hm h
    rw [Nat.add_zero] at h
    omega
  | succ f ih =>
    intro m r hm h
    have h3 := msum_succ y (m - 1)
    rw [show m - 1 + 1 = m by omega] at h3
    rw [civM_succ]
    split
    · rename_i hle
      have e : m + 1 - 1 = m := by omega
      have h4 : msum y (m + f) = msum y (m - 1 + (f + 1)) := by rw [show m + f = m - 1 + (f + 1) by omega]
      have := ih (m + 1) (r - longN y m) (by omega) (by rw [e, h4]; omega)
      rw [e] at this
      exact ⟨this.1, by omega, by omega, this.2.2.2⟩
    · exact ⟨hm, by omega, rfl, by simp only; omega⟩
theorem civ_date (n : Nat) (h : n ≤ 2932896) : IsDate (civ n).1 (civ n).2.1 (civ n).2.2 n := by
  have h1 := civY_spec 8030 1970 n (by omega) (by rw [show 1970 - 1970 = 0 from rfl, Nat.zero_add, ysum_all]; simp [ysum]; omega)
  have h2 := civM_spec (civY 8030 1970 n).1 12 1 (civY 8030 1970 n).2 (by omega) (by rw [show 1 - 1 = 0 from rfl, Nat.zero_add, msum_year]; simp [msum]; exact h1.2.2.2)
  unfold civ
  refine ⟨⟨h1.1, by have := h1.2.1; simp only; omega, h2.1, by have := h2.2.1; simp only; omega, by simp, by simp only; have := h2.2.2.2; omega⟩, ?_⟩
  unfold daysN
  have e1 := h1.2.2.1
  have e2 := h2.2.2.1
  simp only [ysum, msum, Nat.sub_self, Nat.zero_add] at e1 e2 ⊢
  omega
theorem civ_of {y m d n : Nat} (h : IsDate y m d n) (hn : n ≤ 2932896) : civ n = (y, m, d) := by
  obtain ⟨h1, h2, h3⟩ := (civ_date n hn).uniq h
  rw [← h1, ← h2, ← h3]
theorem Valid.le {y m d : Nat} (h : Valid y m d) : daysN y m d ≤ 2932896 := by
  have h1 := h.within.2.1
  have h2 := ysum_le (show y - 1970 + 1 ≤ 8030 by have := h.y1; omega)
  rw [ysum_all] at h2
  omega
def wdN (n : Int) : Int := if n < 0 then 0 else (n % 7 + 4) % 7

end Go.Proofs.YtfmaaghmbnhikaaGreatDoor
end

/-
  Plain functions on written times, without the program: the names, two and four digits, the three forms (P7.2).
-/
section
namespace Go.Proofs.YtfmaaghmbnhikaaGreatDoor

def dayNames : List (List UInt8) := [[83, 117, 110, 100, 97, 121], [77, 111, 110, 100, 97, 121], [84, 117, 101, 115, 100, 97, 121], [87, 101, 100, 110, 101, 115, 100, 97, 121], [84, 104, 117, 114, 115, 100, 97, 121], [70, 114, 105, 100, 97, 121], [83, 97, 116, 117, 114, 100, 97, 121]]
def dayL (n : Nat) : List UInt8 := dayNames.getD n []
def monAll : List UInt8 := [74, 97, 110, 70, 101, 98, 77, 97, 114, 65, 112, 114, 77, 97, 121, 74, 117, 110, 74, 117, 108, 65, 117, 103, 83, 101, 112, 79, 99, 116, 78, 111, 118, 68, 101, 99]
def monL (m : Nat) : List UInt8 := (monAll.drop (3 * m - 3)).take 3
def clkL (t : Nat) : List UInt8 := padL ((t % 86400 / 3600 : Nat) : Int) 2 ++ [58] ++ padL ((t % 86400 / 60 % 60 : Nat) : Int) 2 ++ [58] ++ padL ((t % 86400 % 60 : Nat) : Int) 2
def wdD (n : Nat) : Nat := (n + 4) % 7
def fmtL (t : Nat) : List UInt8 := (dayL (wdD (t / 86400))).take 3 ++ [44, 32] ++ padL ((civ (t / 86400)).2.2 : Int) 2 ++ [32] ++ monL (civ (t / 86400)).2.1 ++ [32] ++ padL ((civ (t / 86400)).1 : Int) 4 ++ [32] ++ clkL t ++ [32, 71, 77, 84]
def oldL (t : Nat) : List UInt8 := dayL (wdD (t / 86400)) ++ [44, 32] ++ padL ((civ (t / 86400)).2.2 : Int) 2 ++ [45] ++ monL (civ (t / 86400)).2.1 ++ [45] ++ padL (((civ (t / 86400)).1 % 100 : Nat) : Int) 2 ++ [32] ++ clkL t ++ [32, 71, 77, 84]
def twoL (d : Nat) : List UInt8 := if d < 10 then 32 :: plainL (d : Int) else plainL (d : Int)
def plnL (t : Nat) : List UInt8 := (dayL (wdD (t / 86400))).take 3 ++ [32] ++ monL (civ (t / 86400)).2.1 ++ [32] ++ twoL (civ (t / 86400)).2.2 ++ [32] ++ clkL t ++ [32] ++ padL ((civ (t / 86400)).1 : Int) 4
def fmtI (t : Int) : List UInt8 := if 0 ≤ t ∧ t ≤ 253402300799 then fmtL t.toNat else []
def oldI (t : Int) : List UInt8 := if 0 ≤ t ∧ t ≤ 3155759999 then oldL t.toNat else []
def plnI (t : Int) : List UInt8 := if 0 ≤ t ∧ t ≤ 253402300799 then plnL t.toNat else []

theorem wd_int (n : Nat) : wdN (n : Int) = ((wdD n : Nat) : Int) := by unfold wdN wdD; rw [if_neg (by omega)]; omega
theorem wd_lt (n : Nat) : wdD n < 7 := Nat.mod_lt _ (by omega)

/-! ### Two and four digits -/
def two (n : Nat) : List UInt8 := [dch (n / 10), dch (n % 10)]
def four (n : Nat) : List UInt8 := [dch (n / 1000), dch (n / 100 % 10), dch (n / 10 % 10), dch (n % 10)]
theorem plain_one {n : Nat} (h : n < 10) : plainL (n : Int) = [dch n] := by
  unfold plainL
  rw [if_neg (by omega), Int.toNat_natCast, digs_small h]
theorem plain_two {n : Nat} (h : 10 ≤ n) (h2 : n < 100) : plainL (n : Int) = two n := by
  unfold plainL
  rw [if_neg (by omega), Int.toNat_natCast, digs_big (by omega) h, digs_small (by omega)]; rfl
theorem plain_four {n : Nat} (h : 1000 ≤ n) (h2 : n < 10000) : plainL (n : Int) = four n := by
  unfold plainL
  rw [if_neg (by omega), Int.toNat_natCast, digs_big (by omega) (by omega), digs_big (by omega) (by omega), digs_big (by omega) (by omega), digs_small (by omega)]
  unfold four
  rw [show n / 10 / 10 / 10 = n / 1000 by omega, show n / 10 / 10 % 10 = n / 100 % 10 by omega]; rfl
theorem pad_two {n : Nat} (h : n < 100) : padL (n : Int) 2 = two n := by
  unfold padL
  rw [if_neg (by omega)]
  by_cases h1 : n < 10
  · rw [plain_one h1]
    unfold two
    rw [show n / 10 = 0 by omega, show n % 10 = n by omega]; rfl
  · rw [plain_two (by omega) h]
    rfl
theorem pad_four {n : Nat} (h : 1000 ≤ n) (h2 : n < 10000) : padL (n : Int) 4 = four n := by
  unfold padL
  rw [if_neg (by omega), plain_four h h2]
  rfl
theorem dch_inj : ∀ a b : Nat, a < 10 → b < 10 → dch a = dch b → a = b := by
  have h : ∀ a : Nat, a < 10 → ∀ b : Nat, b < 10 → dch a = dch b → a = b := by decide
  exact fun a b ha hb => h a ha b hb
theorem two_inj {a b : Nat} (ha : a < 100) (hb : b < 100) (h : two a = two b) : a = b := by
  unfold two at h
  simp only [List.cons.injEq, and_true] at h
  have h1 := dch_inj _ _ (by omega) (by omega) h.1
  have h2 := dch_inj _ _ (by omega) (by omega) h.2
  omega
theorem four_inj {a b : Nat} (ha : a < 10000) (hb : b < 10000) (h : four a = four b) : a = b := by
  unfold four at h
  simp only [List.cons.injEq, and_true] at h
  have h1 := dch_inj _ _ (by omega) (by omega) h.1
  have h2 := dch_inj _ _ (by omega) (by omega) h.2.1
  have h3 := dch_inj _ _ (by omega) (by omega) h.2.2.1
  have h4 := dch_inj _ _ (by omega) (by omega) h.2.2.2
  omega
theorem mon_len : ∀ m : Nat, 1 ≤ m → m ≤ 12 → (monL m).length = 3
  | 0, h, _ => by omega
  | 1, _, _ | 2, _, _ | 3, _, _ | 4, _, _ | 5, _, _ | 6, _, _ | 7, _, _ | 8, _, _ | 9, _, _ | 10, _, _ | 11, _, _ | 12, _, _ => by decide
  | n + 13, _, h => by omega
theorem mon_inj : ∀ a : Nat, a < 13 → ∀ b : Nat, b < 13 → 1 ≤ a → 1 ≤ b → monL a = monL b → a = b := by decide +kernel
theorem day_len : ∀ n : Nat, n < 7 → 6 ≤ (dayL n).length ∧ (dayL n).length ≤ 9 ∧ ((dayL n).take 3).length = 3 ∧ (dayL n).all (fun c => c != 44) = true := by decide +kernel
theorem civ_bd (t : Nat) (h : t ≤ 253402300799) : IsDate (civ (t / 86400)).1 (civ (t / 86400)).2.1 (civ (t / 86400)).2.2 (t / 86400) := civ_date _ (by omega)
theorem clk_eq (t : Nat) : clkL t = two (t % 86400 / 3600) ++ [58] ++ two (t % 86400 / 60 % 60) ++ [58] ++ two (t % 86400 % 60) := by
  unfold clkL
  rw [pad_two (by omega), pad_two (by omega), pad_two (by omega)]
theorem two_of {d : Nat} (h1 : d < 100) : (twoL d).length = 2 := by
  unfold twoL
  split
  · rename_i h; rw [plain_one h]; rfl
  · rw [plain_two (by omega) h1]; rfl

end Go.Proofs.YtfmaaghmbnhikaaGreatDoor
end

/-
  From a row's list of variables to what contracts ask: a listed table of integers holds just those integers, wherever it stands on the list.
-/
section
namespace Go.Proofs.YtfmaaghmbnhikaaGreatDoor
open Go.RowKit

theorem vars_read_at {P : Program} {w : World} : ∀ {l : List (String × DataW Unit)} {ps : List MemPlace}, DataW.LaidVars P w l ps → ∀ {n : String} {d : DataW Unit}, (n, d) ∈ l →
    ∃ g t cs fuel p, P.globalNamed n = some g ∧ (P.globals[g]?).map (·.type) = some t ∧ w.var? P n = some cs ∧ DataW.trod (fun _ => ()) P w 0 (fun _ => true) false fuel t cs.toList = some (d, p)
  | [], _, _, _, _, hm => by cases hm
  | (n', d') :: r, ps, h, n, d, hm => by
    obtain ⟨g, t, cs, fuel, p, q, h1, h2, h3, h4, h5, _⟩ := h
    rcases List.mem_cons.1 hm with e | e
    · cases e
      exact ⟨g, t, cs, fuel, p, h1, h2, h3, h4⟩
    · exact vars_read_at h5 e

theorem tab_in {P : Program} {W : World} {l : List (String × DataW Unit)} {name : String} {d : DataW Unit} {k : IntKind} {zs : List Int} {g : Nat} {t e : TypeId} {n : Nat}
    (h : laidMet P l W) (hm : (name, d) ∈ l) (hd : d = Lib.tabData k zs) (hg : P.globalNamed name = some g) (hty : (P.globals[g]?).map (·.type) = some t)
    (ht : P.underlying t = some (.array n e)) (he : P.underlying e = some (.int k)) (hce : P.cellsOf e = 1) (hct : P.cellsOf t = n) : Lib.TabIs P W name k zs := by
  obtain ⟨ps, hv, _⟩ := h
  obtain ⟨g', t', cs, fuel, p, hg', ht', hvar, hr⟩ := vars_read_at hv hm
  obtain rfl := Option.some.inj (hg.symm.trans hg')
  obtain rfl := Option.some.inj (hty.symm.trans ht')
  subst hd
  unfold Lib.TabIs
  rw [hvar, ← Lib.cells_of_tab ht he hce hct hr]

end Go.Proofs.YtfmaaghmbnhikaaGreatDoor
end
