/-
  Texts that the laws of this seat lean on, one behind the other.
-/
import Derived.Test.YthhlcecojeaalaaDoorMrgA
import Derived.Lib.ItoaNum
set_option linter.unusedSimpArgs false
set_option linter.unusedVariables false
/-
  Plain functions of layer 2, without the program: digits to a base and what they denote, sums of seconds, and small facts about them (P2.1 to P2.5).
-/
section
namespace Go.Proofs.YthhlcecojeaalaaDoor

/-! ### Seconds -/
def clampI (n : Int) : Int := if n < 0 then 0 else if n < 2147483648 then n else 2147483648
def addI (a b : Int) : Int := clampI (clampI a + clampI b)
def lessI (a b : Int) : Int := clampI (clampI a - clampI b)
/-! ### What digits denote -/
/-- What a character is worth as a digit; 99 if it is none. -/
def digV (c : Int) : Int := if rng 48 57 c then c - 48 else if rng 97 102 c then c - 87 else if rng 65 70 c then c - 55 else 99
def isD (b : Int) (c : Int) : Bool := decide (digV c < b)
/-- What digits denote, cut behind each digit. -/
def cutV (b cut : Int) (l : List UInt8) : Int := l.foldl (fun n c => if n * b + digV (c.toNat : Int) < cut then n * b + digV (c.toNat : Int) else cut) 0
/-- What digits denote. -/
def valV (b : Int) (l : List UInt8) : Int := l.foldl (fun n c => n * b + digV (c.toNat : Int)) 0
/-- The number that digits to a base denote, and the error's number: ErrForm 5, ErrRange 3 (P2.2). -/
def numN (b : Int) (long : Nat) (most : Int) (l : List UInt8) : Int := if l.length = 0 ∨ long < l.length ∨ allB (isD b) l = false ∨ most < valV b l then 0 else valV b l
def numE (b : Int) (long : Nat) (most : Int) (l : List UInt8) : Int := if l.length = 0 ∨ long < l.length ∨ allB (isD b) l = false then 5 else if most < valV b l then 3 else 0
/-- P2.3. -/
def secN (l : List UInt8) : Int := if allB (isD 10) l then cutV 10 2147483648 l else 0
def secB (l : List UInt8) : Bool := allB (isD 10) l && !l.isEmpty

/-! ### A number's digits -/
def dch (d : Nat) : UInt8 := if d < 10 then UInt8.ofNat (48 + d) else UInt8.ofNat (87 + d)
/-- The digits of u to the base b. -/
def digs (b u : Nat) : List UInt8 := if u < b ∨ b < 2 then [dch u] else digs b (u / b) ++ [dch (u % b)]
termination_by u
decreasing_by exact Nat.div_lt_self (by omega) (by omega)
/-- P2.1. -/
def plainL (n : Int) : List UInt8 := if n < 0 then 45 :: digs 10 n.natAbs else digs 10 n.toNat
def padL (n width : Int) : List UInt8 := if n < 0 ∨ 9 < width then plainL n else List.replicate (width.toNat - (plainL n).length) 48 ++ plainL n
/-- P2.2. -/
def hexL (n : Int) : List UInt8 := if n < 0 then [] else digs 16 n.toNat

/-! ### P2.5: what was written comes back -/
end Go.Proofs.YthhlcecojeaalaaDoor
end
