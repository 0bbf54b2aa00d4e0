/-
  Texts that the laws of this seat lean on, one behind the other.
-/
import Derived.Test.YtjkfdjolhmgemaaGreatDoorMrgF
import Derived.Test.YtjkfdjolhmgemaaGreatDoorMrgD
import Derived.Deep.AppendLies
set_option linter.unusedSimpArgs false
set_option linter.unusedVariables false
/-
  Blocks made one after the other, and a slice of fields that was written out.
-/
section
namespace Go.Proofs.YtjkfdjolhmgemaaGreatDoor
open Go.RowKit

theorem alls_below : ∀ (os : List Obj) (w : World), Below w.heap.size w (os.foldl World.alloc w)
  | [], w => Below.refl _ _
  | o :: os, w => by
    have h1 : Below w.heap.size w (w.alloc o) := (Below.refl _ _).alloc (Nat.le_refl _) o
    exact h1.trans ((alls_below os (w.alloc o)).mono h1.size)
theorem alls_at : ∀ (os : List Obj) (w : World) (i : Nat) (o : Obj), os[i]? = some o → (os.foldl World.alloc w).heap[w.heap.size + i]? = some o
  | [], w, i, o, h => by simp at h
  | a :: os, w, 0, o, h => by
    simp only [List.getElem?_cons_zero, Option.some.injEq] at h
    subst h
    exact zero_still (alls_below os (w.alloc a)) (heap_alloc_new w a)
  | a :: os, w, i + 1, o, h => by
    rw [List.getElem?_cons_succ] at h
    have := alls_at os (w.alloc a) i o h
    rw [show (w.alloc a).heap.size + i = w.heap.size + (i + 1) by simp; omega] at this
    exact this
/-- A slice of fields whose block is written out. -/
theorem slf_row {W : World} {g t : Nat} {L : List Fd} {cs : Array Value} (hc : cs = (fdC L).toArray) (hg : W.heap[g]? = some (.cells cs t (0, 0))) (hl : L.length ≤ maxLen) (hz : ∀ x ∈ L, x.1.size ≤ maxLen ∧ x.2.size ≤ maxLen) :
    SlF W (some ⟨g, 0, none⟩) L.length L.length L := by
  subst hc
  refine ⟨rfl, Nat.le_refl _, hl, (fun e => by cases e), fun _ => ⟨_, rfl, fun j x hx => ?_⟩, hz⟩
  have h := fdC_at L j x hx
  rw [addr_add, addr_add, cell_of_row _ _ _ _ _ _ hg, cell_of_row _ _ _ _ _ _ hg]
  simpa using h

theorem row_at {w : World} {R t : Nat} {cs : Array Value} (h : w.heap[R]? = some (.cells cs t (0, 0))) (k : Nat) (u : Value) (hk : cs[k]? = some u) : w.cell? ⟨R, k, none⟩ = some u ∧ w.frozen? ⟨R, k, none⟩ = false :=
  ⟨(cell_of_row _ _ _ _ _ _ h).trans hk, by simp [World.frozen?, h]⟩
theorem OwnF.freshL {w : World} {base e n c : Nat} {A : Option Addr} {X : List Fd} (h : OwnF w base e (.slice A n c) X) : ∀ ad, A = some ad → base ≤ ad.block := fun ad hA => by
  subst hA
  exact (World.ownsRow.lt h ad.block rfl).1
/-- Fields lie in another block than the one whose cell is set. -/
theorem SlF.setFar {w : World} {A : Option Addr} {n c : Nat} {L : List Fd} (h : SlF w A n c L) {R k : Nat} (hR : ∀ ad, A = some ad → ad.block ≠ R) (u : Value) : SlF (w.setCell ⟨R, k, none⟩ u) A n c L :=
  ⟨h.len, h.cap, h.cm, h.nil, fun hn => by
    obtain ⟨ad, e, hc⟩ := h.at_ hn
    have hne := hR ad e
    have hk : ∀ j x, w.cell? (ad.add j) = some x → (w.setCell ⟨R, k, none⟩ u).cell? (ad.add j) = some x := fun j x hx => by
      rw [World.cell?_setCell_other _ _ _ _ (by intro h2; have := congrArg Addr.block h2; rw [add_block] at this; exact hne this.symm)]
      exact hx
    exact ⟨ad, e, fun j x hx => ⟨hk _ _ (hc j x hx).1, hk _ _ (hc j x hx).2⟩⟩, h.sz⟩
/-- 'append(out, xs...)' on fields at a step of a region that draws its order: out the call's own, xs not nil. -/
theorem step_append_slf {P : Program} {ops : Array Oper} {o : Oper} {a : Act} {w : World} {K : Act → World → Prop} {Q : Exit → Act → World → Prop} {E : Prop} (hgd : o.guard = none) (s x : Operand) (t : TypeId)
    (ho : o.op = .call { callee := .builtin .append, args := #[s, x], argTypes := #[t, t] }) (base e : Nat) (ht : P.underlying t = some (.slice e))
    (hI : (P.info? e).map (fun i => (i.zero, i.size, i.bytes)) = some (some (.agg #[.string ⟨#[]⟩, .string ⟨#[]⟩]), 2, 32)) (v : Value) (hs : a.eval s = v) (X : List Fd) (hown : OwnF w base e v X)
    (ad : Addr) (m c : Nat) (hx : a.eval x = .slice (some ad) m c) (Y : List Fd) (hY : SlF w (some ad) m c Y) (hm : 0 < m) (hlen : X.length + Y.length ≤ 1000000000) (hbase : base ≤ w.heap.size) (w0 : World) (hb : Below base w0 w)
    (h : ∀ v' w', Hid (OwnF w' base e v' (X ++ Y)) → Below base w0 w' → w.heap.size ≤ w'.heap.size → K (a.put o.dst v') w') :
    if Region.wanted o (yielded ops a.tmps) = true then Oper.wp P o a w K Q else E := by
  obtain ⟨i0, hi, hz0, hz1, hz2⟩ := info_parts hI
  have hl := hY.len
  refine step_append_lies w hgd s x t ho base e i0 (.agg #[.string ⟨#[]⟩, .string ⟨#[]⟩]) 2 32 ht hi hz0 hz1 hz2 rfl (by decide) v _ _ hs hown ad m c (fdC Y) hx (by rw [fdC_len, hl]) hY.news (fdC_ones _) hm (by unfold maxLen; omega) (by omega) hbase _ rfl ?_
  intro g cap w' hown' hgrow _ _
  refine h _ w' ?_ (hb.grown hgrow hbase (fun k hk => (hown.lt k hk).1)) hgrow.size
  show World.ownsRow _ _ _ _ _ _ _
  rw [List.length_append, hl, fdC_append]
  exact hown'
end Go.Proofs.YtjkfdjolhmgemaaGreatDoor
end
