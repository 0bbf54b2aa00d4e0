/-
  Texts that the laws of this seat lean on, one behind the other.
-/
import Derived.Test.YthhlcecojeaalaaDoorMrgC
import Derived.Test.YthhlcecojeaalaaDoorMrgA
import Derived.Test.YthhlcecojeaalaaDoorMrgB
import Derived.LaidMore
import Derived.Lib.LaidTab
set_option linter.unusedSimpArgs false
set_option linter.unusedVariables false
/-
  Plain functions on written times, without the program: the names, two and four digits, the three forms (P7.2).
-/
section
namespace Go.Proofs.YthhlcecojeaalaaDoor

def dayNames : List (List UInt8) := [[83, 117, 110, 100, 97, 121], [77, 111, 110, 100, 97, 121], [84, 117, 101, 115, 100, 97, 121], [87, 101, 100, 110, 101, 115, 100, 97, 121], [84, 104, 117, 114, 115, 100, 97, 121], [70, 114, 105, 100, 97, 121], [83, 97, 116, 117, 114, 100, 97, 121]]
def dayL (n : Nat) : List UInt8 := dayNames.getD n []
def monAll : List UInt8 := [74, 97, 110, 70, 101, 98, 77, 97, 114, 65, 112, 114, 77, 97, 121, 74, 117, 110, 74, 117, 108, 65, 117, 103, 83, 101, 112, 79, 99, 116, 78, 111, 118, 68, 101, 99]
def monL (m : Nat) : List UInt8 := (monAll.drop (3 * m - 3)).take 3
def clkL (t : Nat) : List UInt8 := padL ((t % 86400 / 3600 : Nat) : Int) 2 ++ [58] ++ padL ((t % 86400 / 60 % 60 : Nat) : Int) 2 ++ [58] ++ padL ((t % 86400 % 60 : Nat) : Int) 2
def wdD (n : Nat) : Nat := (n + 4) % 7
def fmtL (t : Nat) : List UInt8 := (dayL (wdD (t / 86400))).take 3 ++ [44, 32] ++ padL ((civ (t / 86400)).2.2 : Int) 2 ++ [32] ++ monL (civ (t / 86400)).2.1 ++ [32] ++ padL ((civ (t / 86400)).1 : Int) 4 ++ [32] ++ clkL t ++ [32, 71, 77, 84]
def oldL (t : Nat) : List UInt8 := dayL (wdD (t / 86400)) ++ [44, 32] ++ padL ((civ (t / 86400)).2.2 : Int) 2 ++ [45] ++ monL (civ (t / 86400)).2.1 ++ [45] ++ padL (((civ (t / 86400)).1 % 100 : Nat) : Int) 2 ++ [32] ++ clkL t ++ [32, 71, 77, 84]
def twoL (d : Nat) : List UInt8 := if d < 10 then 32 :: plainL (d : Int) else plainL (d : Int)
def plnL (t : Nat) : List UInt8 := (dayL (wdD (t / 86400))).take 3 ++ [32] ++ monL (civ (t / 86400)).2.1 ++ [32] ++ twoL (civ (t / 86400)).2.2 ++ [32] ++ clkL t ++ [32] ++ padL ((civ (t / 86400)).1 : Int) 4
def fmtI (t : Int) : List UInt8 := if 0 ≤ t ∧ t ≤ 253402300799 then fmtL t.toNat else []
def oldI (t : Int) : List UInt8 := if 0 ≤ t ∧ t ≤ 3155759999 then oldL t.toNat else []
def plnI (t : Int) : List UInt8 := if 0 ≤ t ∧ t ≤ 253402300799 then plnL t.toNat else []

/-! ### Two and four digits -/
def two (n : Nat) : List UInt8 := [dch (n / 10), dch (n % 10)]
def four (n : Nat) : List UInt8 := [dch (n / 1000), dch (n / 100 % 10), dch (n / 10 % 10), dch (n % 10)]
end Go.Proofs.YthhlcecojeaalaaDoor
end

/-
  Plain functions of layer 10, without the program: what a request line and a status line are.
-/
section
namespace Go.Proofs.YthhlcecojeaalaaDoor
open Go.RowKit

def ht0 : List UInt8 := [72, 84, 84, 80, 47, 49, 46, 48]
def ht1 : List UInt8 := [72, 84, 84, 80, 47, 49, 46, 49]
/-- The minor version of a version's text, or -1. -/
def verI (s : ByteArray) : Int := if s.toList == ht0 then 0 else if s.toList == ht1 then 1 else -1
def visB (c : Int) : Bool := decide (33 ≤ c) && decide (c ≤ 126)
def tokS (s : ByteArray) : Bool := !s.toList.isEmpty && allB tokB s.data.toList
def rqM (s : ByteArray) : ByteArray := cutA s 32
def rqT (s : ByteArray) : ByteArray := cutA (cutZ s 32) 32
def rqL (s : ByteArray) : ByteArray := cutZ (cutZ s 32) 32
def rqH (s : ByteArray) : Bool := (tokS (rqM s) && !(rqT s).toList.isEmpty) && decide (0 ≤ verI (rqL s))
def rqO (s : ByteArray) : Bool := rqH s && allB visB (rqT s).data.toList
def rqE (s : ByteArray) : Int := if 8192 < s.size then 4 else if rqO s then 0 else 20
def rqA (s : ByteArray) : ByteArray := if rqE s = 0 then rqM s else ⟨#[]⟩
def rqB (s : ByteArray) : ByteArray := if rqE s = 0 then rqT s else ⟨#[]⟩
def rqV (s : ByteArray) : Int := if rqE s = 0 then verI (rqL s) else 0
/-- A status line's parts. -/
def lStC (s : ByteArray) : Int := numN 10 18 599 (s.extract 9 12).data.toList
def stX (s : ByteArray) : Int := numE 10 18 599 (s.extract 9 12).data.toList
def stR (s : ByteArray) : ByteArray := s.extract 13 s.size
def byteI (s : ByteArray) (k : Nat) : Int := ((s.data.toList[k]?).getD 0).toNat
def stH (s : ByteArray) : Bool := ((decide (13 ≤ s.size) && decide (0 ≤ verI (s.extract 0 8))) && (byteI s 8 == 32)) && (byteI s 12 == 32)
def stO (s : ByteArray) : Bool := stH s && (((stX s == 0) && decide (100 ≤ lStC s)) && allB txtB (stR s).data.toList)
def stE (s : ByteArray) : Int := if 8192 < s.size then 4 else if stO s then 0 else 20
def stN (s : ByteArray) : Int := if stE s = 0 then lStC s else 0
def stB (s : ByteArray) : ByteArray := if stE s = 0 then stR s else ⟨#[]⟩
def stV' (s : ByteArray) : Int := if stE s = 0 then verI (s.extract 0 8) else 0
def prqS (m t : ByteArray) (v : Int) : ByteArray := m ++ (⟨#[32]⟩ : ByteArray) ++ t ++ (⟨#[32, 72, 84, 84, 80, 47, 49, 46]⟩ : ByteArray) ++ mkS (plainL v)
def pstS (c : Int) (r : ByteArray) (v : Int) : ByteArray := (⟨#[72, 84, 84, 80, 47, 49, 46]⟩ : ByteArray) ++ mkS (plainL v) ++ (⟨#[32]⟩ : ByteArray) ++ mkS (plainL c) ++ (⟨#[32]⟩ : ByteArray) ++ r
def safeB (m : ByteArray) : Bool := ((m.toList == [71, 69, 84] || m.toList == [72, 69, 65, 68]) || m.toList == [79, 80, 84, 73, 79, 78, 83]) || m.toList == [84, 82, 65, 67, 69]
def usuS (c : Int) : ByteArray :=
  if c = 200 then ⟨#[79, 75]⟩ else if c = 304 then ⟨#[78, 111, 116, 32, 77, 111, 100, 105, 102, 105, 101, 100]⟩ else if c = 400 then ⟨#[66, 97, 100, 32, 82, 101, 113, 117, 101, 115, 116]⟩
  else if c = 502 then ⟨#[66, 97, 100, 32, 71, 97, 116, 101, 119, 97, 121]⟩ else if c = 504 then ⟨#[71, 97, 116, 101, 119, 97, 121, 32, 84, 105, 109, 101, 111, 117, 116]⟩ else ⟨#[]⟩

end Go.Proofs.YthhlcecojeaalaaDoor
end

/-
  From a row's list of variables to what contracts ask: a listed table of integers holds just those integers, wherever it stands on the list.
-/
section
namespace Go.Proofs.YthhlcecojeaalaaDoor
open Go.RowKit

theorem vars_read_at {P : Program} {w : World} : ∀ {l : List (String × DataW Unit)} {ps : List MemPlace}, DataW.LaidVars P w l ps → ∀ {n : String} {d : DataW Unit}, (n, d) ∈ l →
    ∃ g t cs fuel p, P.globalNamed n = some g ∧ (P.globals[g]?).map (·.type) = some t ∧ w.var? P n = some cs ∧ DataW.trod (fun _ => ()) P w 0 (fun _ => true) false fuel t cs.toList = some (d, p)
  | [], _, _, _, _, hm => by cases hm
  | (n', d') :: r, ps, h, n, d, hm => by
    obtain ⟨g, t, cs, fuel, p, q, h1, h2, h3, h4, h5, _⟩ := h
    rcases List.mem_cons.1 hm with e | e
    · cases e
      exact ⟨g, t, cs, fuel, p, h1, h2, h3, h4⟩
    · exact vars_read_at h5 e

end Go.Proofs.YthhlcecojeaalaaDoor
end
