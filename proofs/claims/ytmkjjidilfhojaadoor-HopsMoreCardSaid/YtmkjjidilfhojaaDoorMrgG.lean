/-
  Texts that the laws of this seat lean on, one behind the other.
-/
import Derived.Test.YtmkjjidilfhojaaDoorMrgD
import Derived.WalkSmall
/-
  A block of bytes of the call's own, known cell by cell.
-/
section
namespace Go.Proofs.YtmkjjidilfhojaaDoor
open Go.RowKit

theorem addr_add (b j : Nat) : (⟨b, 0, none⟩ : Addr).add j = ⟨b, j, none⟩ := by
  unfold Addr.add
  split <;> simp_all

/-- Block B holds the bytes l from its first cell on, and they may be written. -/
structure Row8 (w : World) (B : Nat) (l : List UInt8) : Prop where
  size : B < w.heap.size
  cell : ∀ j, (hj : j < l.length) → w.cell? ⟨B, j, none⟩ = some (.int .u8 (l[j].toNat : Int))
  free : ∀ j, j < l.length → w.frozen? ⟨B, j, none⟩ = false

theorem Row8.below {w w' : World} {B : Nat} {l : List UInt8} (h : Row8 w B l) (hb : Below w.heap.size w w') : Row8 w' B l :=
  ⟨Nat.lt_of_lt_of_le h.size hb.size, fun j hj => (hb.cell h.size).trans (h.cell j hj), fun j hj => (hb.frozen h.size).trans (h.free j hj)⟩

theorem Row8.at {w : World} {B : Nat} {l : List UInt8} (h : Row8 w B l) {j : Nat} {x : UInt8} (hx : l[j]? = some x) : w.cell? ⟨B, j, none⟩ = some (.int .u8 (x.toNat : Int)) ∧ w.frozen? ⟨B, j, none⟩ = false := by
  obtain ⟨a, b⟩ := List.getElem?_eq_some_iff.1 hx
  have := h.cell j a
  rw [b] at this
  exact ⟨this, h.free j a⟩

theorem Row8.set {w : World} {B : Nat} {l : List UInt8} (h : Row8 w B l) (k : Nat) (hk : k < l.length) (x : UInt8) {n : Int} (hn : n = (x.toNat : Int)) : Row8 (w.setCell ⟨B, k, none⟩ (.int .u8 n)) B (l.set k x) := by
  subst hn
  refine ⟨by simpa [World.setCell] using h.size, fun j hj => ?_, fun j hj => by rw [World.frozen?_setCell]; exact h.free j (by simpa using hj)⟩
  have hj' : j < l.length := by simpa using hj
  by_cases e : k = j
  · subst e
    rw [World.cell?_setCell_same (h := h.cell k hk)]
    simp
  · rw [World.cell?_setCell_other (h := by simp only [ne_eq, Addr.mk.injEq]; omega), h.cell j hj', List.getElem_set_ne e]

end Go.Proofs.YtmkjjidilfhojaaDoor
end
