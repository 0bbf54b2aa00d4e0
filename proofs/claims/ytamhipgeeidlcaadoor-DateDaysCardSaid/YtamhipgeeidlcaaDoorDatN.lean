/-
  Plain functions on written times, without the program: the names, two and four digits, the three forms (P7.2).
-/
import Derived.Test.YtamhipgeeidlcaaDoorDatM
namespace Go.Proofs.YtamhipgeeidlcaaDoor

def dayNames : List (List UInt8) := [[83, 117, 110, 100, 97, 121], [77, 111, 110, 100, 97, 121], [84, 117, 101, 115, 100, 97, 121], [87, 101, 100, 110, 101, 115, 100, 97, 121], [84, 104, 117, 114, 115, 100, 97, 121], [70, 114, 105, 100, 97, 121], [83, 97, 116, 117, 114, 100, 97, 121]]
def dayL (n : Nat) : List UInt8 := dayNames.getD n []
def monAll : List UInt8 := [74, 97, 110, 70, 101, 98, 77, 97, 114, 65, 112, 114, 77, 97, 121, 74, 117, 110, 74, 117, 108, 65, 117, 103, 83, 101, 112, 79, 99, 116, 78, 111, 118, 68, 101, 99]
def monL (m : Nat) : List UInt8 := (monAll.drop (3 * m - 3)).take 3
def clkL (t : Nat) : List UInt8 := padL ((t % 86400 / 3600 : Nat) : Int) 2 ++ [58] ++ padL ((t % 86400 / 60 % 60 : Nat) : Int) 2 ++ [58] ++ padL ((t % 86400 % 60 : Nat) : Int) 2
def wdD (n : Nat) : Nat := (n + 4) % 7
def fmtL (t : Nat) : List UInt8 := (dayL (wdD (t / 86400))).take 3 ++ [44, 32] ++ padL ((civ (t / 86400)).2.2 : Int) 2 ++ [32] ++ monL (civ (t / 86400)).2.1 ++ [32] ++ padL ((civ (t / 86400)).1 : Int) 4 ++ [32] ++ clkL t ++ [32, 71, 77, 84]
def oldL (t : Nat) : List UInt8 := dayL (wdD (t / 86400)) ++ [44, 32] ++ padL ((civ (t / 86400)).2.2 : Int) 2 ++ [45] ++ monL (civ (t / 86400)).2.1 ++ [45] ++ padL (((civ (t / 86400)).1 % 100 : Nat) : Int) 2 ++ [32] ++ clkL t ++ [32, 71, 77, 84]
def twoL (d : Nat) : List UInt8 := if d < 10 then 32 :: plainL (d : Int) else plainL (d : Int)
def plnL (t : Nat) : List UInt8 := (dayL (wdD (t / 86400))).take 3 ++ [32] ++ monL (civ (t / 86400)).2.1 ++ [32] ++ twoL (civ (t / 86400)).2.2 ++ [32] ++ clkL t ++ [32] ++ padL ((civ (t / 86400)).1 : Int) 4
def fmtI (t : Int) : List UInt8 := if 0 ≤ t ∧ t ≤ 253402300799 then fmtL t.toNat else []
def oldI (t : Int) : List UInt8 := if 0 ≤ t ∧ t ≤ 3155759999 then oldL t.toNat else []
def plnI (t : Int) : List UInt8 := if 0 ≤ t ∧ t ≤ 253402300799 then plnL t.toNat else []

theorem wd_int (n : Nat) : wdN (n : Int) = ((wdD n : Nat) : Int) := by unfold wdN wdD; rw [if_neg (by omega)]; omega
theorem wd_lt (n : Nat) : wdD n < 7 := Nat.mod_lt _ (by omega)

/-! ### Two and four digits -/
def two (n : Nat) : List UInt8 := [dch (n / 10), dch (n % 10)]
def four (n : Nat) : List UInt8 := [dch (n / 1000), dch (n / 100 % 10), dch (n / 10 % 10), dch (n % 10)]
theorem plain_one {n : Nat} (h : n < 10) : plainL (n : Int) = [dch n] := by
  unfold plainL
  rw [if_neg (by omega), Int.toNat_natCast, digs_small h]
theorem plain_two {n : Nat} (h : 10 ≤ n) (h2 : n < 100) : plainL (n : Int) = two n := by
  unfold plainL
  rw [if_neg (by omega), Int.toNat_natCast, digs_big (by omega) h, digs_small (by omega)]; rfl
theorem plain_four {n : Nat} (h : 1000 ≤ n) (h2 : n < 10000) : plainL (n : Int) = four n := by
  unfold plainL
  rw [if_neg (by omega), Int.toNat_natCast, digs_big (by omega) (by omega), digs_big (by omega) (by omega), digs_big (by omega) (by omega), digs_small (by omega)]
  unfold four
  rw [show n / 10 / 10 / 10 = n / 1000 by omega, show n / 10 / 10 % 10 = n / 100 % 10 by omega]; rfl
theorem pad_two {n : Nat} (h : n < 100) : padL (n : Int) 2 = two n := by
  unfold padL
  rw [if_neg (by omega)]
  by_cases h1 : n < 10
  · rw [plain_one h1]
    unfold two
    rw [show n / 10 = 0 by omega, show n % 10 = n by omega]; rfl
  · rw [plain_two (by omega) h]
    rfl
theorem pad_four {n : Nat} (h : 1000 ≤ n) (h2 : n < 10000) : padL (n : Int) 4 = four n := by
  unfold padL
  rw [if_neg (by omega), plain_four h h2]
  rfl
theorem dch_inj : ∀ a b : Nat, a < 10 → b < 10 → dch a = dch b → a = b := by
  have h : ∀ a : Nat, a < 10 → ∀ b : Nat, b < 10 → dch a = dch b → a = b := by decide
  exact fun a b ha hb => h a ha b hb
theorem two_inj {a b : Nat} (ha : a < 100) (hb : b < 100) (h : two a = two b) : a = b := by
  unfold two at h
  simp only [List.cons.injEq, and_true] at h
  have h1 := dch_inj _ _ (by omega) (by omega) h.1
  have h2 := dch_inj _ _ (by omega) (by omega) h.2
  omega
theorem four_inj {a b : Nat} (ha : a < 10000) (hb : b < 10000) (h : four a = four b) : a = b := by
  unfold four at h
  simp only [List.cons.injEq, and_true] at h
  have h1 := dch_inj _ _ (by omega) (by omega) h.1
  have h2 := dch_inj _ _ (by omega) (by omega) h.2.1
  have h3 := dch_inj _ _ (by omega) (by omega) h.2.2.1
  have h4 := dch_inj _ _ (by omega) (by omega) h.2.2.2
  omega
theorem mon_len : ∀ m : Nat, 1 ≤ m → m ≤ 12 → (monL m).length = 3
  | 0, h, _ => by omega
  | 1, _, _ | 2, _, _ | 3, _, _ | 4, _, _ | 5, _, _ | 6, _, _ | 7, _, _ | 8, _, _ | 9, _, _ | 10, _, _ | 11, _, _ | 12, _, _ => by decide
  | n + 13, _, h => by omega
theorem mon_inj : ∀ a : Nat, a < 13 → ∀ b : Nat, b < 13 → 1 ≤ a → 1 ≤ b → monL a = monL b → a = b := by decide +kernel
theorem day_len : ∀ n : Nat, n < 7 → 6 ≤ (dayL n).length ∧ (dayL n).length ≤ 9 ∧ ((dayL n).take 3).length = 3 ∧ (dayL n).all (fun c => c != 44) = true := by decide +kernel
theorem civ_bd (t : Nat) (h : t ≤ 253402300799) : IsDate (civ (t / 86400)).1 (civ (t / 86400)).2.1 (civ (t / 86400)).2.2 (t / 86400) := civ_date _ (by omega)
theorem clk_eq (t : Nat) : clkL t = two (t % 86400 / 3600) ++ [58] ++ two (t % 86400 / 60 % 60) ++ [58] ++ two (t % 86400 % 60) := by
  unfold clkL
  rw [pad_two (by omega), pad_two (by omega), pad_two (by omega)]
theorem two_of {d : Nat} (h1 : d < 100) : (twoL d).length = 2 := by
  unfold twoL
  split
  · rename_i h; rw [plain_one h]; rfl
  · rw [plain_two (by omega) h1]; rfl

end Go.Proofs.YtamhipgeeidlcaaDoor
