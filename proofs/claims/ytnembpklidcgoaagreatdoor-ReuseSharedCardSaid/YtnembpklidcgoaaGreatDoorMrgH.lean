/-
  Texts that the laws of this seat lean on, one behind the other.
-/
import Derived.Test.YtnembpklidcgoaaGreatDoorMrgF
import Derived.Test.YtnembpklidcgoaaGreatDoorMrgD
import Derived.Deep.AppendLies
import Derived.ArgAppend
import Derived.Deep.Upon
/-
  Blocks made one after the other, and a slice of fields that was written out.
-/
section
namespace Go.Proofs.YtnembpklidcgoaaGreatDoor
open Go.RowKit

theorem alls_below : ∀ (os : List Obj) (w : World), Below w.heap.size w (os.foldl World.alloc w)
  | [], w => Below.refl _ _
  | o :: os, w => by
    have h1 : Below w.heap.size w (w.alloc o) := (Below.refl _ _).alloc (Nat.le_refl _) o
    exact h1.trans ((alls_below os (w.alloc o)).mono h1.size)
theorem alls_at : ∀ (os : List Obj) (w : World) (i : Nat) (o : Obj), os[i]? = some o → (os.foldl World.alloc w).heap[w.heap.size + i]? = some o
  | [], w, i, o, h => by simp at h
  | a :: os, w, 0, o, h => by
    simp only [List.getElem?_cons_zero, Option.some.injEq] at h
    subst h
    exact zero_still (alls_below os (w.alloc a)) (heap_alloc_new w a)
  | a :: os, w, i + 1, o, h => by
    rw [List.getElem?_cons_succ] at h
    have := alls_at os (w.alloc a) i o h
    rw [show (w.alloc a).heap.size + i = w.heap.size + (i + 1) by simp; omega] at this
    exact this
/-- A slice of fields whose block is written out. -/
theorem slf_row {W : World} {g t : Nat} {L : List Fd} {cs : Array Value} (hc : cs = (fdC L).toArray) (hg : W.heap[g]? = some (.cells cs t (0, 0))) (hl : L.length ≤ maxLen) (hz : ∀ x ∈ L, x.1.size ≤ maxLen ∧ x.2.size ≤ maxLen) :
    SlF W (some ⟨g, 0, none⟩) L.length L.length L := by
  subst hc
  refine ⟨rfl, Nat.le_refl _, hl, (fun e => by cases e), fun _ => ⟨_, rfl, fun j x hx => ?_⟩, hz⟩
  have h := fdC_at L j x hx
  rw [addr_add, addr_add, cell_of_row _ _ _ _ _ _ hg, cell_of_row _ _ _ _ _ _ hg]
  simpa using h

theorem row_at {w : World} {R t : Nat} {cs : Array Value} (h : w.heap[R]? = some (.cells cs t (0, 0))) (k : Nat) (u : Value) (hk : cs[k]? = some u) : w.cell? ⟨R, k, none⟩ = some u ∧ w.frozen? ⟨R, k, none⟩ = false :=
  ⟨(cell_of_row _ _ _ _ _ _ h).trans hk, by simp [World.frozen?, h]⟩
theorem row_set {w : World} {R t k : Nat} {cs : Array Value} (h : w.heap[R]? = some (.cells cs t (0, 0))) (u : Value) : (w.setCell ⟨R, k, none⟩ u).heap[R]? = some (.cells (cs.setIfInBounds k u) t (0, 0)) := by
  simp [World.setCell, Array.getElem?_modify, h]
/-- Fields lie in another block than the one whose cell is set. -/
theorem SlF.setFar {w : World} {A : Option Addr} {n c : Nat} {L : List Fd} (h : SlF w A n c L) {R k : Nat} (hR : ∀ ad, A = some ad → ad.block ≠ R) (u : Value) : SlF (w.setCell ⟨R, k, none⟩ u) A n c L :=
  ⟨h.len, h.cap, h.cm, h.nil, fun hn => by
    obtain ⟨ad, e, hc⟩ := h.at_ hn
    have hne := hR ad e
    have hk : ∀ j x, w.cell? (ad.add j) = some x → (w.setCell ⟨R, k, none⟩ u).cell? (ad.add j) = some x := fun j x hx => by
      rw [World.cell?_setCell_other _ _ _ _ (by intro h2; have := congrArg Addr.block h2; rw [add_block] at this; exact hne this.symm)]
      exact hx
    exact ⟨ad, e, fun j x hx => ⟨hk _ _ (hc j x hx).1, hk _ _ (hc j x hx).2⟩⟩, h.sz⟩
end Go.Proofs.YtnembpklidcgoaaGreatDoor
end

/-
  append onto a slice of fields that is full: what was there stays, whatever is appended.
-/
section
namespace Go.Proofs.YtnembpklidcgoaaGreatDoor
open Go.RowKit Go.ChangeShapes Go.WideShapes

theorem wpList_append_slf_full {P : Program} {ops : Array Oper} {rest : List Oper} {o : Oper} {a : Act} {w : World} {Q : Exit → Act → World → Prop} (hgd : o.guard = none) (s x : Operand) (t : TypeId)
    (ho : o.op = .call { callee := .builtin .append, args := #[s, x], argTypes := #[t, t] }) (e : TypeId) (ht : P.underlying t = some (.slice e))
    (hI : (P.info? e).map (fun i => (i.zero, i.size, i.bytes)) = some (some (.agg #[.string ⟨#[]⟩, .string ⟨#[]⟩]), 2, 32)) (A : Option Addr) (n : Nat) (hs : a.eval s = .slice A n n) (X : List Fd) (hX : SlF w A n n X)
    (B : Option Addr) (m c : Nat) (hx : a.eval x = .slice B m c) (Y : List Fd) (hY : SlF w B m c Y) (hlen : X.length + Y.length ≤ 1000000000)
    (h : ∀ A' c' w', SlF w' A' (n + m) c' (X ++ Y) → (A' = A ∨ ∀ ad, A' = some ad → w.heap.size ≤ ad.block) → Below w.heap.size w w' → wpList P ops Q rest (a.put o.dst (.slice A' (n + m) c')) w') : wpList P ops Q (o :: rest) a w := by
  obtain ⟨i0, hi, hz0, hz1, hz2⟩ := info_parts hI
  have hlX := hX.len
  have hlY := hY.len
  by_cases hm : m = 0
  · subst hm
    obtain rfl : Y = [] := List.eq_nil_of_length_eq_zero hlY
    have hsrc : Src P i0.size t (.slice B 0 c) 0 [] w := by
      cases B with
      | none => exact Src.ofNil (P := P) (w := w) ht c
      | some ad => exact Src.ofSlice (P := P) (w := w) ht ad 0 c [] (by simp) (fun j u hj => by simp at hj) (fun u hu => by cases hu)
    refine wpList_plain hgd fun K hK' => ?_
    have hrun := run_append_nothing w t t o.type e i0 ht hi A n n (Nat.le_refl _) (.slice B 0 c) hsrc
    unfold Oper.wp
    simp [execOp, ho, resolve, invoke, builtin, hs, hx, hrun, Result.andThen]
    exact hK' _ _ (h A n w (by rw [List.append_nil]; exact hX) (.inl rfl) (Below.refl _ _))
  · obtain ⟨bd, rfl, _⟩ := hY.at_ (by omega)
    refine wpList_append_grows w hgd s x t ho e i0 (.agg #[.string ⟨#[]⟩, .string ⟨#[]⟩]) 2 32 ht hi hz0 hz1 hz2 rfl (by decide) A n n (fdC X) hs (fun hA => ⟨by have := hX.nil hA; omega, hX.nil hA⟩) (by rw [fdC_len, hlX]) (fun b hb => by subst hb; exact hX.news)
      bd m c (fdC Y) hx (by rw [fdC_len, hlY]) hY.news (fdC_ones _) (by omega) (by unfold maxLen; omega) (by omega) ?_
    intro v' w' hown hgrow
    have hz : ∀ x ∈ X ++ Y, x.1.size ≤ maxLen ∧ x.2.size ≤ maxLen := fun x hx => by
      rcases List.mem_append.1 hx with hx | hx
      · exact hX.sz x hx
      · exact hY.sz x hx
    obtain ⟨A', c', rfl, hS⟩ := SlF.of_own (L := X ++ Y) (n := n + m) (by rw [fdC_append]; exact hown) hz
    refine h A' c' w' hS (.inr fun ad hA => ?_) ((Below.refl _ _).grown hgrow (Nat.le_refl _) (fun k hk => by cases hk))
    subst hA
    exact (World.ownsRow.lt hown ad.block rfl).1

end Go.Proofs.YtnembpklidcgoaaGreatDoor
end
