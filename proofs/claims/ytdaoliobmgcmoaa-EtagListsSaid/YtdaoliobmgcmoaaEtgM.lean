/-
  Plain functions of layer 14, without the program: tags, what a text's tag is, whether two are alike.
-/
import Derived.Test.YtdaoliobmgcmoaaComG
import Derived.Test.YtdaoliobmgcmoaaOctE
namespace Go.Proofs.Ytdaoliobmgcmoaa
open Go.RowKit

/-- P14.1: a byte that may stand in a tag. -/
def innB (c : Int) : Bool := c == 33 || (decide (35 ≤ c) && !(c == 127))
def wkB (s : ByteArray) : Bool := decide (2 ≤ s.size) && (s.extract 0 2).toList == [87, 47]
def offW (s : ByteArray) : ByteArray := if wkB s then s.extract 2 s.size else s
def frmB (r : ByteArray) : Bool := if h : 2 ≤ r.size then r[0].toNat == 34 && r[r.size - 1].toNat == 34 else false
def midL (r : ByteArray) : ByteArray := r.extract 1 (r.size - 1)
def tgB (s : ByteArray) : Bool := frmB (offW s) && allB innB (midL (offW s)).data.toList
def tgO (s : ByteArray) : Tg := if tgB s then (wkB s, midL (offW s)) else (false, ⟨#[]⟩)
def tgS (t : Tg) : ByteArray := (if t.1 then (⟨#[87, 47, 34]⟩ : ByteArray) else ⟨#[34]⟩) ++ t.2 ++ (⟨#[34]⟩ : ByteArray)
def wekB (a b : Tg) : Bool := a.2.toList == b.2.toList
def strB (a b : Tg) : Bool := !a.1 && !b.1 && a.2.toList == b.2.toList
/-- P14.3: what a part of a list adds. -/
def addT (part : List UInt8) (out : List Tg) : Option (List Tg) := if trimL part = [] then some out else if tgB (mkS (trimL part)) then some (out ++ [tgO (mkS (trimL part))]) else none
def lsR (q : Bool) (part : List UInt8) (out : List Tg) : List UInt8 → Option (List Tg)
  | [] => addT part out
  | c :: r => if c ≠ 44 ∨ q = true then lsR (if c = 34 then !q else q) (part ++ [c]) out r else match addT part out with
    | none => none
    | some o => lsR q [] o r
def lsA (s : ByteArray) : Bool := (mkS (trimL s.data.toList)).toList == [42]
def lsP (s : ByteArray) : List Tg := (lsR false [] [] s.data.toList).getD []
def lsL (s : ByteArray) : List Tg := if lsA s then [] else lsP s
def lsE (s : ByteArray) : Int := if lsA s then 0 else if (lsP s).isEmpty then 5 else 0
def mtB (s : ByteArray) (t : Tg) : Bool := lsA s || (lsL s).any fun x => wekB x t

end Go.Proofs.Ytdaoliobmgcmoaa
