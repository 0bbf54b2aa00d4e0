/-
  Contract of the reference's Resolve (layer 8).
-/
import Derived.Test.YtcmppmbieebkpaaDoorTarW
namespace Go.Proofs.YtcmppmbieebkpaaDoor
open Go.RowKit

/-- What Resolve parses as the Host. -/
def hostS (h : ByteArray) (p : Int) : ByteArray := h ++ (⟨#[58]⟩ : ByteArray) ++ mkS (plainL p)
def resV (h : ByteArray) (p : Int) (s : ByteArray) : Value := parV s (hostS h p)
def resB (h : ByteArray) (p : Int) (s : ByteArray) : Bool := parN8 s (hostS h p) == 0

abbrev zeroU : Obj := .cells #[.string ⟨#[]⟩, .int .i64 0, .string ⟨#[]⟩] 23
theorem alloc_then {W w2 : World} {o : Obj} (hb : Below (W.alloc o).heap.size (W.alloc o) w2) : Below W.heap.size W w2 := ((Below.refl _ _).alloc (Nat.le_refl _) o).trans (hb.mono (by simp))
theorem alloc_zero {W w2 : World} {o : Obj} (hb : Below (W.alloc o).heap.size (W.alloc o) w2) : w2.heap[W.heap.size]? = some o := (hb.block _ (by simp)).trans (heap_alloc_new W o)
theorem alloc_thenD {W w2 : World} {o : Obj} (hb : Below (W.alloc o).drew.heap.size (W.alloc o).drew w2) : Below W.drew.heap.size W.drew w2 :=
  ⟨hb.os, hb.tape, hb.output, Nat.le_trans (show W.heap.size ≤ (W.alloc o).heap.size by simp) hb.size, fun k hk => (hb.block k (Nat.lt_of_lt_of_le hk (show W.heap.size ≤ (W.alloc o).heap.size by simp))).trans (Below.heap_alloc W o k hk)⟩
theorem alloc_zeroD {W w2 : World} {o : Obj} {B : Nat} (hb : Below (W.alloc o).drew.heap.size (W.alloc o).drew w2) (hB : W.heap.size = B) : w2.heap[B]? = some o := by
  subst hB
  exact (hb.block _ (show W.heap.size < (W.alloc o).heap.size by simp)).trans (heap_alloc_new W o)
theorem still_zero {W w2 : World} {o : Obj} {B : Nat} (hb : Below W.heap.size W w2) (h : W.heap[B]? = some o) : w2.heap[B]? = some o := (hb.block _ (Array.getElem?_eq_some_iff.1 h).1).trans h
theorem uri_other {W : World} {g b j : Nat} {v c0 c1 c2 : Value} (hn : b ≠ g) (h : W.cell? ⟨b, j, none⟩ = some v) :
    (((W.setCell ⟨g, 0, none⟩ c0).setCell ⟨g, 1, none⟩ c1).setCell ⟨g, 2, none⟩ c2).cell? ⟨b, j, none⟩ = some v := by
  have e : ∀ k : Nat, (⟨g, k, none⟩ : Addr) ≠ ⟨b, j, none⟩ := fun k he => hn (congrArg Addr.block he).symm
  rw [World.cell?_setCell_other (h := e 2), World.cell?_setCell_other (h := e 1), World.cell?_setCell_other (h := e 0)]
  exact h
theorem uri_far {W : World} {g b : Nat} {o : Obj} {c0 c1 c2 : Value} (hn : b ≠ g) (h : W.heap[b]? = some o) :
    (((W.setCell ⟨g, 0, none⟩ c0).setCell ⟨g, 1, none⟩ c1).setCell ⟨g, 2, none⟩ c2).heap[b]? = some o := by
  rw [Below.heap_setCell _ _ _ _ (fun e => hn (by rw [e])), Below.heap_setCell _ _ _ _ (fun e => hn (by rw [e])), Below.heap_setCell _ _ _ _ (fun e => hn (by rw [e]))]
  exact h
theorem uri_full {W : World} {g t : Nat} {c0 c1 c2 : Value} (h : W.heap[g]? = some (.cells #[c0, c1, c2] t (0, 0))) : W.cell? ⟨g, 0, none⟩ = some c0 ∧ W.cell? ⟨g, 1, none⟩ = some c1 ∧ W.cell? ⟨g, 2, none⟩ = some c2 :=
  ⟨(cell_of_row _ _ 0 _ _ _ h).trans rfl, (cell_of_row _ _ 1 _ _ _ h).trans rfl, (cell_of_row _ _ 2 _ _ _ h).trans rfl⟩
/-- The world inside Resolve. -/
structure Res8 (w W : World) (h : ByteArray) (p : Int) (a : ByteArray) : Prop where
  u : Uri3 W w.heap.size h p a
  z : W.heap[w.heap.size + 1]? = some zeroU
  b : Below w.heap.size w W
theorem Res8.kept {w W W' : World} {x : ByteArray} {p : Int} {a : ByteArray} (h : Res8 w W x p a) (hb : Below W.heap.size W W') : Res8 w W' x p a := ⟨h.u.kept hb, still_zero hb h.z, below_then h.b hb⟩

end Go.Proofs.YtcmppmbieebkpaaDoor
