/-
  Texts that the laws of this seat lean on, one behind the other.
-/
import Derived.Test.YthhlcecojeaalaaDoorMrgQ
import Derived.Test.YthhlcecojeaalaaDoorMrgF
import Derived.WalkMore
import Derived.Test.YthhlcecojeaalaaDoorMrgM
import Derived.OwnWalk
import Derived.Test.YthhlcecojeaalaaDoorMrgL
import Derived.Test.YthhlcecojeaalaaDoorMrgN
set_option linter.unusedSimpArgs false
set_option linter.unusedVariables false
/-
  Contract of Split of package items, for every text of at most 1000000000 bytes.
-/
section
namespace Go.Proofs.YthhlcecojeaalaaDoor
open Go.RowKit

/-- What Split answers: strings in a slice, and a code. -/
def Strs2 (w : World) (L : List (List UInt8)) (code : Int) (e : Ending) (w' : World) : Prop :=
  ∃ A c, e = .returned (.tuple #[.slice A L.length c, .int .i64 code]) ∧ SlS w' A L.length c L ∧ Head w' A ∧ Below w.heap.size w w'

def cellN (w : World) (Q : Nat) : Nat := match w.cell? ⟨Q, 0, none⟩ with | some v => (intOf v).toNat | none => 0
/-- The closure's own two cells, and the list that is gathered. -/
structure Gath (s : ByteArray) (w : World) (B k : Nat) (v : Value) (X : List (List UInt8)) : Prop where
  own : OwnS w (B + 2) 9 v X
  p : w.cell? ⟨B, 0, none⟩ = some (.string s)
  q : w.cell? ⟨B + 1, 0, none⟩ = some (.int .i64 (k : Int))
  fr : w.frozen? ⟨B + 1, 0, none⟩ = false
  sz : B + 2 ≤ w.heap.size
theorem Gath.grown {s : ByteArray} {w w2 : World} {B k : Nat} {v v' : Value} {X X' : List (List UInt8)} (h : Gath s w B k v X) (hb : Below (B + 2) w w2) (hsz2 : B + 2 ≤ w2.heap.size) (ho : OwnS w2 (B + 2) 9 v' X') : Gath s w2 B k v' X' :=
  ⟨ho, (hb.cell (p := ⟨B, 0, none⟩) (by show B < _; omega)).trans h.p, (hb.cell (p := ⟨B + 1, 0, none⟩) (by show B + 1 < _; omega)).trans h.q, (hb.frozen (p := ⟨B + 1, 0, none⟩) (by show B + 1 < _; omega)).trans h.fr, hsz2⟩

end Go.Proofs.YthhlcecojeaalaaDoor
end

/-
  Contract of the reference's Split (layer 6).
-/
section
namespace Go.Proofs.YthhlcecojeaalaaDoor
open Go.RowKit

theorem ext_one (s p : ByteArray) (k : Nat) (h : k < s.size) : (p ++ s.extract k (k + 1)).data.toList = p.data.toList ++ [s[k]] := by
  rw [append_list, piece_ext, mkS_list, piece_snoc s k k (Nat.le_refl _) h, piece_none, List.nil_append]
/-- How the reference's state stands for the list's. -/
def spb (b : Bool) (p : ByteArray) (X : List (List UInt8)) (s : ByteArray) (k : Nat) : Option (List (List UInt8)) := spl b.toNat p.data.toList X (s.data.toList.drop k)
theorem xt_size (s p : ByteArray) (k m : Nat) (hm : m ≤ s.size) (hk : k ≤ m) : (p ++ s.extract k m).size = p.size + (m - k) := by simp; omega

/-- As Strs2; what is answered lies in memory of the call's own. -/
def Strs3 (w : World) (L : List (List UInt8)) (code : Int) (e : Ending) (w' : World) : Prop :=
  ∃ A c, e = .returned (.tuple #[.slice A L.length c, .int .i64 code]) ∧ SlS w' A L.length c L ∧ Head w' A ∧ (∀ ad, A = some ad → w.heap.size ≤ ad.block) ∧ Below w.heap.size w w'
end Go.Proofs.YthhlcecojeaalaaDoor
end

/-
  Contracts of Quote, unescape and Unquote of package items.
-/
section
namespace Go.Proofs.YthhlcecojeaalaaDoor
open Go.RowKit

/-- 'make([]byte, 0, n)'. -/
theorem wpList_make8 {P : Program} {w : World} {ops : Array Oper} {rest : List Oper} {o : Oper} {a : Act} {Q : Exit → Act → World → Prop} (hgd : o.guard = none) (l c : Operand) (t : TypeId) (hop : o.op = Op.makeSlice t l c)
    (base e : Nat) (ht : P.underlying t = some (.slice e)) (hI : (P.info? e).map (fun i => (i.zero, i.size, i.bytes)) = some (some (.int .u8 0), 1, 1)) (kl kc : IntKind) (C : Int) (n : Nat) (hl : a.eval l = .int kl 0) (hc : a.eval c = .int kc C) (hC : C = (n : Int)) (hn : n ≤ 4000000000)
    (hbase : base ≤ w.heap.size) (w0 : World) (hb : Below base w0 w) (h : ∀ v' w', Hid (Own8 w' base e v' []) → Below base w0 w' → w.heap.size ≤ w'.heap.size → wpList P ops Q rest (a.put o.dst v') w') : wpList P ops Q (o :: rest) a w := by
  obtain ⟨i0, hi, hz0, hz1, hz2⟩ := info_parts hI
  refine wpList_make_own w hgd l c t hop base e i0 _ 1 ht hi hz0 hz1 kl kc C n hl hc hC (by rw [hz2]; omega) (by unfold maxLen; omega) hbase ?_
  intro w' hown hgrow
  exact h _ w' hown (hb.grown hgrow hbase (fun k hk => by cases hk)) hgrow.size
/-- 'append(out, x)' on bytes, the outcome named. -/
theorem wpList_append_as {P : Program} {ops : Array Oper} {rest : List Oper} {o : Oper} {a : Act} {w : World} {Q : Exit → Act → World → Prop} (hgd : o.guard = none) (s x : Operand) (t : TypeId)
    (ho : o.op = .call { callee := .builtin .append, args := #[s, x], argTypes := #[t, t] }) (base e : Nat) (ht : P.underlying t = some (.slice e))
    (hI : (P.info? e).map (fun i => (i.zero, i.size, i.bytes)) = some (some (.int .u8 0), 1, 1)) (v : Value) (hs : a.eval s = v) (X : List UInt8) (hown : Own8 w base e v X)
    (A : Option Addr) (m c : Nat) (hx : a.eval x = .slice A m c) (Y : List UInt8) (hY : Sl8 w A m c Y) (Z : List UInt8) (hZ : Hid (X ++ Y = Z)) (hlen : X.length + Y.length ≤ 1000000000) (hbase : base ≤ w.heap.size) (w0 : World) (hb : Below base w0 w)
    (h : ∀ v' w', Hid (Own8 w' base e v' Z) → Below base w0 w' → w.heap.size ≤ w'.heap.size → wpList P ops Q rest (a.put o.dst v') w') : wpList P ops Q (o :: rest) a w := by
  have := hZ.out
  subst this
  exact wpList_append_sl8 hgd s x t ho base e ht hI v hs X hown A m c hx Y hY hlen hbase w0 hb h

end Go.Proofs.YthhlcecojeaalaaDoor
end

/-
  Contracts of value and Param of package items.
-/
section
namespace Go.Proofs.YthhlcecojeaalaaDoor
open Go.RowKit

def isTok (x : ByteArray) : Bool := !x.toList.isEmpty && allB tokB x.data.toList
def valO (z : ByteArray) : ByteArray := if isTok z then z else mkS (unqO z.data.toList)
def valE (z : ByteArray) : Int := if isTok z then 0 else unqE z.data.toList
def parE (s : ByteArray) : Int := if isTok (cutA s 61) then (if cutOk s 61 then valE (cutZ s 61) else 0) else 5
def parN (s : ByteArray) : ByteArray := if parE s = 0 then mkS (lowL (cutA s 61).data.toList) else ⟨#[]⟩
def parV (s : ByteArray) : ByteArray := if parE s = 0 ∧ cutOk s 61 = true then valO (cutZ s 61) else ⟨#[]⟩
def parH (s : ByteArray) : Bool := if parE s = 0 then cutOk s 61 else false
end Go.Proofs.YthhlcecojeaalaaDoor
end

/-
  Contracts of the reference's Unquote and Param (layer 6).
-/
section
namespace Go.Proofs.YthhlcecojeaalaaDoor
open Go.RowKit

/-- How the reference's state stands for the list's. -/
def unb (p s : ByteArray) (k : Nat) : Option (List UInt8) := unqR 1 p.data.toList (s.data.toList.drop k)
end Go.Proofs.YthhlcecojeaalaaDoor
end
