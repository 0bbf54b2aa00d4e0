/-
  Texts that the laws of this seat lean on, one behind the other.
-/
import Derived.Test.YtnembpklidcgoaaGreatDoorMrhF
import Derived.Test.YtnembpklidcgoaaGreatDoorMrhD
import Derived.Deep.AppendLies
/-
  Blocks made one after the other, and a slice of fields that was written out.
-/
section
namespace Go.Proofs.YtnembpklidcgoaaGreatDoor
open Go.RowKit

theorem alls_below : ∀ (os : List Obj) (w : World), Below w.heap.size w (os.foldl World.alloc w)
  | [], w => Below.refl _ _
  | o :: os, w => by
    have h1 : Below w.heap.size w (w.alloc o) := (Below.refl _ _).alloc (Nat.le_refl _) o
    exact h1.trans ((alls_below os (w.alloc o)).mono h1.size)
theorem alls_at : ∀ (os : List Obj) (w : World) (i : Nat) (o : Obj), os[i]? = some o → (os.foldl World.alloc w).heap[w.heap.size + i]? = some o
  | [], w, i, o, h => by simp at h
  | a :: os, w, 0, o, h => by
    simp only [List.getElem?_cons_zero, Option.some.injEq] at h
    subst h
    exact zero_still (alls_below os (w.alloc a)) (heap_alloc_new w a)
  | a :: os, w, i + 1, o, h => by
    rw [List.getElem?_cons_succ] at h
    have := alls_at os (w.alloc a) i o h
    rw [show (w.alloc a).heap.size + i = w.heap.size + (i + 1) by simp; omega] at this
    exact this
/-- A slice of fields whose block is written out. -/
theorem slf_row {W : World} {g t : Nat} {L : List Fd} {cs : Array Value} (hc : cs = (fdC L).toArray) (hg : W.heap[g]? = some (.cells cs t (0, 0))) (hl : L.length ≤ maxLen) (hz : ∀ x ∈ L, x.1.size ≤ maxLen ∧ x.2.size ≤ maxLen) :
    SlF W (some ⟨g, 0, none⟩) L.length L.length L := by
  subst hc
  refine ⟨rfl, Nat.le_refl _, hl, (fun e => by cases e), fun _ => ⟨_, rfl, fun j x hx => ?_⟩, hz⟩
  have h := fdC_at L j x hx
  rw [addr_add, addr_add, cell_of_row _ _ _ _ _ _ hg, cell_of_row _ _ _ _ _ _ hg]
  simpa using h

end Go.Proofs.YtnembpklidcgoaaGreatDoor
end
