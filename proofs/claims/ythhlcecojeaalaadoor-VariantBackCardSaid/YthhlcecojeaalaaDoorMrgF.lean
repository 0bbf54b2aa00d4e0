/-
  Texts that the laws of this seat lean on, one behind the other.
-/
import Derived.Test.YthhlcecojeaalaaDoorMrgE
import Derived.Laws.CopyOwn
import Derived.Laws.AppendOwnNone
import Derived.Laws.Tables
import Derived.Maps.AppendAt
import Derived.Lib.AppendStr
import Derived.Laws.MakeOwn
set_option linter.unusedSimpArgs false
set_option linter.unusedVariables false
/-
  Laws for the walk on arrays of bytes: an array stored into, and read out of, a block that is known whole; the world behind it is a variable.
-/
section
namespace Go.Proofs.YthhlcecojeaalaaDoor
open Go.RowKit

theorem wpList_store_arr {P : Program} {ops : Array Oper} {rest : List Oper} {o : Oper} {a : Act} {w : World} {Q : Exit → Act → World → Prop} (hgd : o.guard = none) (ty : TypeId) (x y : Operand) (ho : o.op = .store ty x y)
    (g : Nat) (l : List UInt8) (hx : a.eval x = .pointer (some ⟨g, 0, none⟩)) (hy : a.eval y = .agg (l.map byV).toArray)
    (t : TypeId) (old : List UInt8) (hg : Blk8 w g t old) (hi : (P.info? ty).map (·.size) = some l.length) (hold : old.length = l.length) (B : Nat) (w0 : World) (hb : Below B w0 w) (hBg : B ≤ g)
    (h : ∀ w', Hid (Blk8 w' g t l) → Below B w0 w' → w.heap.size ≤ w'.heap.size → wpList P ops Q rest (a.put o.dst undef) w') : wpList P ops Q (o :: rest) a w :=
  wpList_store_row hgd ty x y ho g (l.map byV).toArray hx hy t (old.map byV).toArray hg (by rw [hi]; simp) (by simp [hold]) (by simp; intros; rfl)
    (h _ (setRow_heap w g _ _ t _ hg) (below_setRow hb hBg _) (by simp [World.setRow]))

theorem Sls.two {w : World} {A A' : Option Addr} {n c n' c' : Nat} {l l' : List UInt8} (h : Sl8 w A n c l) (h' : Sl8 w A' n' c' l') (t : TypeId) :
    Sls (w.alloc (.cells #[.slice A n c, .slice A' n' c'] t)) w.heap.size [l, l'] := by
  refine ⟨by simp, fun j x hx => ?_⟩
  have hg := heap_alloc_new w (.cells #[.slice A n c, .slice A' n' c'] t)
  rcases j with _ | _ | j
  · simp only [List.getElem?_cons_zero, Option.some.injEq] at hx
    subst hx
    exact ⟨A, n, c, by rw [cell_of_row _ _ _ _ _ _ hg]; rfl, h.alloc _⟩
  · simp only [List.getElem?_cons_succ, List.getElem?_cons_zero, Option.some.injEq] at hx
    subst hx
    exact ⟨A', n', c', by rw [cell_of_row _ _ _ _ _ _ hg]; rfl, h'.alloc _⟩
  · simp at hx
theorem Sls.three {w : World} {A A' A'' : Option Addr} {n c n' c' n'' c'' : Nat} {l l' l'' : List UInt8} (h : Sl8 w A n c l) (h' : Sl8 w A' n' c' l') (h'' : Sl8 w A'' n'' c'' l'') (t : TypeId) :
    Sls (w.alloc (.cells #[.slice A n c, .slice A' n' c', .slice A'' n'' c''] t)) w.heap.size [l, l', l''] := by
  refine ⟨by simp, fun j x hx => ?_⟩
  have hg := heap_alloc_new w (.cells #[.slice A n c, .slice A' n' c', .slice A'' n'' c''] t)
  rcases j with _ | _ | _ | j
  · simp only [List.getElem?_cons_zero, Option.some.injEq] at hx
    subst hx
    exact ⟨A, n, c, by rw [cell_of_row _ _ _ _ _ _ hg]; rfl, h.alloc _⟩
  · simp only [List.getElem?_cons_succ, List.getElem?_cons_zero, Option.some.injEq] at hx
    subst hx
    exact ⟨A', n', c', by rw [cell_of_row _ _ _ _ _ _ hg]; rfl, h'.alloc _⟩
  · simp only [List.getElem?_cons_succ, List.getElem?_cons_zero, Option.some.injEq] at hx
    subst hx
    exact ⟨A'', n'', c'', by rw [cell_of_row _ _ _ _ _ _ hg]; rfl, h''.alloc _⟩
  · simp at hx

/-- Bytes in memory of the call's own, from block 'base' on. -/
def Own8 (w : World) (base e : Nat) (v : Value) (X : List UInt8) : Prop := w.ownsRow base e 1 v X.length (X.map byV)
theorem Own8.sl8 {w : World} {base e : Nat} {v : Value} {X : List UInt8} (h : Own8 w base e v X) : ∃ A c, v = .slice A X.length c ∧ Sl8 w A X.length c X := Sl8.of_own h
theorem Own8.start (w : World) (e : Nat) : Own8 (w.alloc (.cells #[] e)) w.heap.size e (.slice (some ⟨w.heap.size, 0, none⟩) 0 0) [] :=
  World.ownsRow_made w #[] 0 (Nat.le_refl _) (Nat.zero_le _) rfl
theorem Own8.alloc {w : World} {base e : Nat} {v : Value} {X : List UInt8} (h : Own8 w base e v X) (o : Obj) : Own8 (w.alloc o) base e v X := World.ownsRow.alloc h o
theorem Sl8.one (w : World) (t : TypeId) (x : UInt8) {z : Int} (hz : z = (x.toNat : Int)) : Sl8 (w.alloc (.cells #[.int .u8 z] t)) (some ⟨w.heap.size, 0, none⟩) 1 1 [x] := by
  subst hz
  refine ⟨rfl, Nat.le_refl _, by decide, (fun e => by cases e), fun _ => ⟨_, rfl, fun j y hy => ?_⟩⟩
  rcases j with _ | j
  · simp only [List.getElem?_cons_zero, Option.some.injEq] at hy
    subst hy
    rw [addr_add, cell_of_row _ _ _ _ _ _ (heap_alloc_new w _)]
    rfl
  · simp at hy

/-- 'append(out, xs...)' on bytes: out the call's own, xs any slice, nil or not. -/
theorem wpList_append_sl8 {P : Program} {ops : Array Oper} {rest : List Oper} {o : Oper} {a : Act} {w : World} {Q : Exit → Act → World → Prop} (hgd : o.guard = none) (s x : Operand) (t : TypeId)
    (ho : o.op = .call { callee := .builtin .append, args := #[s, x], argTypes := #[t, t] }) (base e : Nat) (ht : P.underlying t = some (.slice e))
    (hI : (P.info? e).map (fun i => (i.zero, i.size, i.bytes)) = some (some (.int .u8 0), 1, 1)) (v : Value) (hs : a.eval s = v) (X : List UInt8) (hown : Own8 w base e v X)
    (A : Option Addr) (m c : Nat) (hx : a.eval x = .slice A m c) (Y : List UInt8) (hY : Sl8 w A m c Y) (hlen : X.length + Y.length ≤ 1000000000) (hbase : base ≤ w.heap.size) (w0 : World) (hb : Below base w0 w)
    (h : ∀ v' w', Hid (Own8 w' base e v' (X ++ Y)) → Below base w0 w' → w.heap.size ≤ w'.heap.size → wpList P ops Q rest (a.put o.dst v') w') : wpList P ops Q (o :: rest) a w := by
  obtain ⟨i0, hi, hz0, hz1, hz2⟩ := info_parts hI
  rcases A with _ | ad
  · obtain ⟨rfl, rfl, rfl⟩ := hY.none_eq
    refine wpList_append_own_none hgd s x t ho base e i0 1 ht hi v _ _ hs hown hx ?_
    exact h v w (by rw [List.append_nil]; exact hown) hb (Nat.le_refl _)
  · have hl := hY.len
    refine wpList_append_own w hgd s x t ho base e i0 (.int .u8 0) 1 1 ht hi hz0 hz1 hz2 rfl (by decide) v _ _ hs hown ad m c (Y.map byV) hx (by rw [List.length_map, hl, Nat.mul_one]) hY.news (byV_ones _) (by unfold maxLen; omega) (by omega) hbase ?_
    intro v' w' hown' hgrow _
    refine h v' w' ?_ (hb.grown hgrow hbase (fun k hk => (hown.lt k hk).1)) hgrow.size
    show World.ownsRow _ _ _ _ _ _ _
    rw [List.length_append, hl, List.map_append]
    exact hown'

theorem Sl8.drew {w : World} {A : Option Addr} {n c : Nat} {l : List UInt8} (h : Sl8 w A n c l) : Sl8 w.drew A n c l := ⟨h.len, h.cap, h.cm, h.nil, h.at_⟩
theorem Sls.drew {w : World} {B : Nat} {L : List (List UInt8)} (h : Sls w B L) : Sls w.drew B L := ⟨h.size, fun j l hj => by
  obtain ⟨A, n, c, h1, h2⟩ := h.part j l hj
  exact ⟨A, n, c, h1, ⟨h2.len, h2.cap, h2.cm, h2.nil, h2.at_⟩⟩⟩

/-- What '[]byte(s)' makes. -/
theorem Sl8.made (w w' : World) (s : ByteArray) (t e : TypeId) (hs : s.size ≤ maxLen) :
    Sl8 (w.alloc (.cells (bytesRow s (grownCap w' s.size 0 e)) t ((bytesRow s (grownCap w' s.size 0 e)).size, (bytesRow s (grownCap w' s.size 0 e)).size + 1))) (some ⟨w.heap.size, 0, none⟩) s.size (grownCap w' s.size 0 e) s.data.toList := by
  have hl : s.size = s.data.toList.length := Lib.size_eq s
  refine ⟨hl.symm, grownCap_ge _ _ _ _, grownCap_le_maxLen _ _ _ _ hs, (fun e => by cases e), fun _ => ⟨_, rfl, fun j x hx => ?_⟩⟩
  obtain ⟨hj, e⟩ := List.getElem?_eq_some_iff.1 hx
  rw [addr_add, World.cell?_alloc_mark, bytesRow_at s _ j (by simpa using hj)]
  subst e
  simp [byV]

end Go.Proofs.YthhlcecojeaalaaDoor
end

/-
  One block may be written, nothing else that was there: 'ButB'; a struct of one slice of bytes behind a pointer: 'Hold1'.
-/
section
namespace Go.Proofs.YthhlcecojeaalaaDoor
open Go.RowKit

theorem Sl8.upto {w : World} {A : Option Addr} {n c : Nat} {l : List UInt8} (h : Sl8 w A n c l) {k : Nat} (hk : k ≤ n) : Sl8 w A k c (l.take k) := by
  have h1 := h.len
  have h2 := h.cap
  refine ⟨by rw [List.length_take]; omega, by omega, h.cm, h.nil, fun hn => ?_⟩
  obtain ⟨ad, e, hc⟩ := h.at_ (by omega)
  refine ⟨ad, e, fun j x hx => ?_⟩
  rw [List.getElem?_take] at hx
  split at hx
  · exact hc j x hx
  · cases hx
theorem Sl8.from_ {w : World} {A : Option Addr} {n c : Nat} {l : List UInt8} (h : Sl8 w A n c l) {k : Nat} (hk : k ≤ n) : Sl8 w (if c = k then A else A.map (fun x => x.add k)) (n - k) (c - k) (l.drop k) := by
  have := h.cut hk (Nat.le_refl n)
  rw [List.take_of_length_le (by rw [List.length_drop, h.len]; exact Nat.le_refl _), Nat.mul_one] at this
  exact this

/-- What was there is as it was, but for block R. -/
structure ButB (R : Nat) (w w' : World) : Prop where
  os : w'.os = w.os
  tape : w'.tape = w.tape
  output : w'.output = w.output
  size : w.heap.size ≤ w'.heap.size
  block : ∀ k, k < w.heap.size → k ≠ R → w'.heap[k]? = w.heap[k]?

section
variable {R : Nat} {w w' w'' : World}
theorem ButB.refl (R : Nat) (w : World) : ButB R w w := ⟨rfl, rfl, rfl, Nat.le_refl _, fun _ _ _ => rfl⟩
theorem ButB.of_below (h : Below w.heap.size w w') : ButB R w w' := ⟨h.os, h.tape, h.output, h.size, fun k hk _ => h.block k hk⟩
theorem ButB.trans (h : ButB R w w') (k : ButB R w' w'') : ButB R w w'' :=
  ⟨k.os.trans h.os, k.tape.trans h.tape, k.output.trans h.output, Nat.le_trans h.size k.size, fun i hi hR => (k.block i (Nat.lt_of_lt_of_le hi h.size) hR).trans (h.block i hi hR)⟩
theorem ButB.below {B : Nat} (h : ButB R w w') (hB : B ≤ w.heap.size) (hR : B ≤ R) : Below B w w' :=
  ⟨h.os, h.tape, h.output, h.size, fun k hk => h.block k (by omega) (by omega)⟩
theorem ButB.setCell (h : ButB R w w') (o : Nat) (u : Value) : ButB R w (w'.setCell ⟨R, o, none⟩ u) :=
  h.trans ⟨rfl, rfl, rfl, by simp [World.setCell], fun k _ hk => Below.heap_setCell _ _ _ _ hk⟩

/-- Bytes that lie elsewhere. -/
theorem Sl8.far {A : Option Addr} {n c : Nat} {l : List UInt8} (h : Sl8 w A n c l) (hA : ∀ ad, A = some ad → ad.block ≠ R) (hb : ButB R w w') : Sl8 w' A n c l := by
  refine ⟨h.len, h.cap, h.cm, h.nil, fun hn => ?_⟩
  obtain ⟨ad, e, hc⟩ := h.at_ hn
  refine ⟨ad, e, fun j x hx => ?_⟩
  have h1 := hc j x hx
  exact (World.cell?_of_block (w := w) (hb.block _ (World.block_lt_of_cell? w _ h1) (by rw [add_block]; exact hA ad e))).trans h1
/-- The bytes of a row of the call's own lie from its first block on. -/
theorem Own8.sl8_at {base e : Nat} {v : Value} {X : List UInt8} (h : Own8 w base e v X) : ∃ A c, v = .slice A X.length c ∧ Sl8 w A X.length c X ∧ ∀ ad, A = some ad → base ≤ ad.block ∧ ad.block < w.heap.size := by
  obtain ⟨A, c, rfl, hs⟩ := h.sl8
  refine ⟨A, c, rfl, hs, fun ad hA => ?_⟩
  subst hA
  exact World.ownsRow.lt h ad.block rfl

/-- n bytes lie in block G, whichever, and may be written. -/
def Any8 (w : World) (G n : Nat) : Prop := G < w.heap.size ∧ ∀ j, j < n → ∃ x : UInt8, w.cell? ⟨G, j, none⟩ = some (.int .u8 (x.toNat : Int)) ∧ w.frozen? ⟨G, j, none⟩ = false
theorem Own8.any {base e : Nat} {A : Option Addr} {n c : Nat} {X : List UInt8} (h : Own8 w base e (.slice A n c) X) (hbase : base < w.heap.size) :
    ∃ G, base ≤ G ∧ (0 < X.length → A = some ⟨G, 0, none⟩) ∧ Any8 w G X.length := by
  rcases h.2 with ⟨hv, hn⟩ | ⟨g, cap, cur, hv, hb, hg, hnc, hcm, hcs, ht⟩
  · exact ⟨base, Nat.le_refl _, fun h0 => by omega, hbase, fun j hj => by omega⟩
  · simp only [Value.slice.injEq] at hv
    refine ⟨g, hb, fun _ => hv.1, (Array.getElem?_eq_some_iff.1 hg).1, fun j hj => ?_⟩
    refine ⟨X[j], ?_, by simp [World.frozen?, hg]⟩
    have := World.ownsRow.cells h (g := g) (by rw [hv.1]; rfl) j (byV X[j]) (by rw [List.getElem?_map, List.getElem?_eq_getElem hj]; rfl)
    rw [addr_add] at this
    exact this
theorem Any8.below {G n : Nat} (h : Any8 w G n) (hb : Below w.heap.size w w') : Any8 w' G n :=
  ⟨Nat.lt_of_lt_of_le h.1 hb.size, fun j hj => by
    obtain ⟨x, h1, h2⟩ := h.2 j hj
    exact ⟨x, cell_kept hb h1, (hb.frozen h.1).trans h2⟩⟩
theorem Any8.set {G n : Nat} (h : Any8 w G n) (k : Nat) {z : Int} (hz : ∃ y : UInt8, z = (y.toNat : Int)) : Any8 (w.setCell ⟨G, k, none⟩ (.int .u8 z)) G n := by
  obtain ⟨y, rfl⟩ := hz
  refine ⟨by simpa [World.setCell] using h.1, fun j hj => ?_⟩
  obtain ⟨x, h1, h2⟩ := h.2 j hj
  by_cases e : k = j
  · subst e
    exact ⟨y, by rw [World.cell?_setCell_same (h := h1)], by rw [World.frozen?_setCell]; exact h2⟩
  · exact ⟨x, by rw [World.cell?_setCell_other (h := by simp only [ne_eq, Addr.mk.injEq]; omega)]; exact h1, by rw [World.frozen?_setCell]; exact h2⟩
/-- Block R is one cell, a slice of bytes, that reads as l. -/
def Hold1 (w : World) (R t : Nat) (l : List UInt8) : Prop := ∃ A n c, w.heap[R]? = some (.cells #[.slice A n c] t (0, 0)) ∧ Sl8 w A n c l
theorem Hold1.lt {t : Nat} {l : List UInt8} (h : Hold1 w R t l) : R < w.heap.size := by
  obtain ⟨A, n, c, hg, _⟩ := h
  exact (Array.getElem?_eq_some_iff.1 hg).1
/-- Bytes lie in no such block. -/
theorem Sl8.but {A B : Option Addr} {n c m d t : Nat} {l : List UInt8} (h : Sl8 w A n c l) (hg : w.heap[R]? = some (.cells #[.slice B m d] t (0, 0))) (hb : ButB R w w') : Sl8 w' A n c l := by
  refine ⟨h.len, h.cap, h.cm, h.nil, fun hn => ?_⟩
  obtain ⟨ad, e, hc⟩ := h.at_ hn
  refine ⟨ad, e, fun j x hx => ?_⟩
  have h1 := hc j x hx
  have hlt := World.block_lt_of_cell? w _ h1
  by_cases hR : (ad.add j).block = R
  · exfalso
    simp only [World.cell?, hR, hg] at h1
    split at h1
    · cases h1
    · rcases hk : (ad.add j).off with _ | k
      · rw [hk] at h1
        simp [byV] at h1
      · rw [hk] at h1
        simp at h1
  · exact (World.cell?_of_block (w := w) (hb.block _ hlt hR)).trans h1
theorem Hold1.below {t : Nat} {l : List UInt8} (h : Hold1 w R t l) (hb : Below w.heap.size w w') : Hold1 w' R t l := by
  obtain ⟨A, n, c, hg, hs⟩ := h
  exact ⟨A, n, c, (hb.block R (Array.getElem?_eq_some_iff.1 hg).1).trans hg, hs.below hb⟩
theorem hold_cell {t : Nat} {A : Option Addr} {n c : Nat} (hg : w.heap[R]? = some (.cells #[.slice A n c] t (0, 0))) : w.cell? ⟨R, 0, none⟩ = some (.slice A n c) ∧ w.frozen? ⟨R, 0, none⟩ = false :=
  ⟨by rw [cell_of_row _ _ _ _ _ _ hg]; rfl, by simp [World.frozen?, hg]⟩
theorem hold_set {t : Nat} {A : Option Addr} {n c : Nat} (hg : w.heap[R]? = some (.cells #[.slice A n c] t (0, 0))) (A' : Option Addr) (n' c' : Nat) :
    (w.setCell ⟨R, 0, none⟩ (.slice A' n' c')).heap[R]? = some (.cells #[.slice A' n' c'] t (0, 0)) := by
  simp [World.setCell, Array.getElem?_modify, hg]
end

end Go.Proofs.YthhlcecojeaalaaDoor
end

/-
  Slices of strings: what a slice reads as, nil or not; rows of strings of the call's own, and what is appended to them.
-/
section
namespace Go.Proofs.YthhlcecojeaalaaDoor
open Go.RowKit

/-- A string as a value. -/
def stV (x : List UInt8) : Value := .string (mkS x)

/-- The slice of n strings at A, of capacity c, reads as L. -/
structure SlS (w : World) (A : Option Addr) (n c : Nat) (L : List (List UInt8)) : Prop where
  len : L.length = n
  cap : n ≤ c
  cm : c ≤ maxLen
  nil : A = none → c = 0
  at_ : 0 < n → ∃ ad, A = some ad ∧ ∀ j x, L[j]? = some x → w.cell? (ad.add j) = some (.string (mkS x))
/-- The slice begins at its block's first cell. -/
def Head (w : World) (A : Option Addr) : Prop := A = none ∨ ∃ g, g < w.heap.size ∧ A = some ⟨g, 0, none⟩

section
variable {w w' : World} {A : Option Addr} {n c : Nat} {L : List (List UInt8)}
theorem SlS.none_ (w : World) : SlS w none 0 0 [] := ⟨rfl, Nat.le_refl _, Nat.zero_le _, fun _ => rfl, fun h => absurd h (by omega)⟩
theorem SlS.none_eq (h : SlS w none n c L) : n = 0 ∧ c = 0 ∧ L = [] := by
  have h1 := h.nil rfl
  have h2 := h.cap
  have h3 := h.len
  exact ⟨by omega, h1, List.eq_nil_of_length_eq_zero (by omega)⟩
theorem SlS.keep (h : SlS w A n c L) (hk : ∀ a u, w.cell? a = some u → w'.cell? a = some u) : SlS w' A n c L :=
  ⟨h.len, h.cap, h.cm, h.nil, fun hn => by
    obtain ⟨ad, e, hc⟩ := h.at_ hn
    exact ⟨ad, e, fun j x hx => hk _ _ (hc j x hx)⟩⟩
theorem SlS.below (h : SlS w A n c L) (hb : Below w.heap.size w w') : SlS w' A n c L := h.keep fun _ _ hu => cell_kept hb hu
theorem SlS.alloc (h : SlS w A n c L) (o : Obj) : SlS (w.alloc o) A n c L := h.keep fun _ _ hu => Lib.cell?_alloc_some o hu
theorem SlS.drew (h : SlS w A n c L) : SlS w.drew A n c L := ⟨h.len, h.cap, h.cm, h.nil, h.at_⟩
theorem SlS.le (h : SlS w A n c L) : L.length ≤ maxLen := by have := h.len; have := h.cap; have := h.cm; omega
theorem SlS.cells {ad : Addr} (h : SlS w (some ad) n c L) : ∀ j x, L[j]? = some x → w.cell? (ad.add j) = some (.string (mkS x)) := fun j x hx => by
  have : j < L.length := (List.getElem?_eq_some_iff.1 hx).1
  obtain ⟨ad', e, hc⟩ := h.at_ (by have := h.len; omega)
  cases e
  exact hc j x hx
theorem SlS.news {ad : Addr} (h : SlS w (some ad) n c L) : ∀ j u, (L.map stV)[j]? = some u → w.cell? (ad.add j) = some u := fun j u hu => by
  rw [List.getElem?_map, Option.map_eq_some_iff] at hu
  obtain ⟨x, hx, rfl⟩ := hu
  exact h.cells j x hx
theorem stV_ones (L : List (List UInt8)) : ∀ u ∈ L.map stV, u.oneCell' = true := fun u hu => by
  obtain ⟨x, _, rfl⟩ := List.mem_map.1 hu
  rfl
theorem Head.below (h : Head w A) (hb : Below w.heap.size w w') : Head w' A := by
  rcases h with h | ⟨g, hg, h⟩
  · exact .inl h
  · exact .inr ⟨g, Nat.lt_of_lt_of_le hg hb.size, h⟩
theorem Head.none_ (w : World) : Head w none := .inl rfl

theorem SlS.of_own {base e : Nat} {v : Value} (h : w.ownsRow base e 1 v n (L.map stV)) : ∃ A c, v = .slice A n c ∧ SlS w A n c L ∧ Head w A := by
  have hl : L.length = n := by have := h.1; simpa using this
  rcases h.2 with ⟨rfl, rfl⟩ | ⟨g, cap, cur, rfl, _, hg, hnc, hcm, hcs, ht⟩
  · obtain rfl : L = [] := List.eq_nil_of_length_eq_zero hl
    exact ⟨_, _, rfl, SlS.none_ w, .inl rfl⟩
  · refine ⟨_, _, rfl, ⟨hl, hnc, hcm, (fun e => by cases e), fun _ => ⟨_, rfl, fun j x hx => ?_⟩⟩, .inr ⟨g, (Array.getElem?_eq_some_iff.1 hg).1, rfl⟩⟩
    refine h.cells (g := g) rfl j (stV x) ?_
    rw [List.getElem?_map, hx]; rfl

/-- What came in. -/
theorem SlS.of_row {z : List ByteArray} (h : (A = none ∧ n = 0 ∧ c = 0 ∧ z = []) ∨ ∃ x, A = some x ∧ n ≤ c ∧ c ≤ maxLen ∧ z.length = c ∧ (∀ i, i < z.length → w.cell? (x.add i) = some (.string (z.getD i ByteArray.empty))) ∧ ∀ s ∈ z, s.size ≤ maxLen) :
    ∃ L, SlS w A n c L ∧ ∀ x ∈ L, x.length ≤ maxLen := by
  rcases h with ⟨rfl, rfl, rfl, rfl⟩ | ⟨ad, rfl, hl, hm, hz, hc, hw⟩
  · exact ⟨[], SlS.none_ w, fun x hx => by cases hx⟩
  · refine ⟨(z.take n).map fun s => s.data.toList, ⟨by rw [List.length_map, List.length_take]; omega, hl, hm, (fun e => by cases e), fun _ => ⟨ad, rfl, fun j x hx => ?_⟩⟩, fun x hx => ?_⟩
    · rw [List.getElem?_map, List.getElem?_take] at hx
      split at hx
      · simp only [Option.map_eq_some_iff] at hx
        obtain ⟨i, hi, rfl⟩ := hx
        obtain ⟨hj, hji⟩ := List.getElem?_eq_some_iff.1 hi
        have : z.getD j ByteArray.empty = i := by simp [List.getD, hi]
        rw [hc j hj, this, mkS_self]
      · cases hx
    · obtain ⟨s, hs, rfl⟩ := List.mem_map.1 hx
      rw [← Lib.size_eq]
      exact hw s (List.mem_of_mem_take hs)
end

/-- Strings in memory of the call's own, from block 'base' on. -/
def OwnS (w : World) (base e : Nat) (v : Value) (X : List (List UInt8)) : Prop := w.ownsRow base e 1 v X.length (X.map stV)
theorem OwnS.sls {w : World} {base e : Nat} {v : Value} {X : List (List UInt8)} (h : OwnS w base e v X) : ∃ A c, v = .slice A X.length c ∧ SlS w A X.length c X ∧ Head w A := SlS.of_own h
theorem OwnS.nil (w : World) (base e : Nat) : OwnS w base e (.slice none 0 0) [] := World.ownsRow_nil _ _ _ _
theorem OwnS.alloc {w : World} {base e : Nat} {v : Value} {X : List (List UInt8)} (h : OwnS w base e v X) (o : Obj) : OwnS (w.alloc o) base e v X := World.ownsRow.alloc h o
theorem OwnS.drew {w : World} {base e : Nat} {v : Value} {X : List (List UInt8)} (h : OwnS w base e v X) : OwnS w.drew base e v X := World.ownsRow.drew h
/-- A call that leaves what was there as it was leaves such a row as it was. -/
theorem ownsRow_below {w w' : World} {base e size n : Nat} {v : Value} {xs : List Value} (h : w.ownsRow base e size v n xs) (hb : Below w.heap.size w w') : w'.ownsRow base e size v n xs := by
  refine ⟨h.1, ?_⟩
  rcases h.2 with h2 | ⟨g, cap, cur, h1, h2, h3, h4, h5, h6, h7⟩
  · exact .inl h2
  · exact .inr ⟨g, cap, cur, h1, h2, (hb.block g (Array.getElem?_eq_some_iff.1 h3).1).trans h3, h4, h5, h6, h7⟩
theorem OwnS.below {w w' : World} {base e : Nat} {v : Value} {X : List (List UInt8)} (h : OwnS w base e v X) (hb : Below w.heap.size w w') : OwnS w' base e v X := ownsRow_below h hb
theorem Own8.below {w w' : World} {base e : Nat} {v : Value} {X : List UInt8} (h : Own8 w base e v X) (hb : Below w.heap.size w w') : Own8 w' base e v X := ownsRow_below h hb
theorem SlS.one (w : World) (t : TypeId) (x : List UInt8) : SlS (w.alloc (.cells #[.string (mkS x)] t)) (some ⟨w.heap.size, 0, none⟩) 1 1 [x] := by
  refine ⟨rfl, Nat.le_refl _, by decide, (fun e => by cases e), fun _ => ⟨_, rfl, fun j y hy => ?_⟩⟩
  rcases j with _ | j
  · simp only [List.getElem?_cons_zero, Option.some.injEq] at hy
    subst hy
    rw [addr_add, cell_of_row _ _ _ _ _ _ (heap_alloc_new w _)]
    rfl
  · simp at hy

theorem SlS.text (w : World) (t : TypeId) (x : ByteArray) : SlS (w.alloc (.cells #[.string x] t)) (some ⟨w.heap.size, 0, none⟩) 1 1 [x.data.toList] := by
  have := SlS.one w t x.data.toList
  rwa [mkS_self] at this

/-- 'append(out, xs...)' on strings: out the call's own, xs any slice, nil or not. -/
theorem wpList_append_sls {P : Program} {ops : Array Oper} {rest : List Oper} {o : Oper} {a : Act} {w : World} {Q : Exit → Act → World → Prop} (hgd : o.guard = none) (s x : Operand) (t : TypeId)
    (ho : o.op = .call { callee := .builtin .append, args := #[s, x], argTypes := #[t, t] }) (base e : Nat) (ht : P.underlying t = some (.slice e))
    (hI : (P.info? e).map (fun i => (i.zero, i.size, i.bytes)) = some (some (.string ByteArray.empty), 1, 16)) (v : Value) (hs : a.eval s = v) (X : List (List UInt8)) (hown : OwnS w base e v X)
    (A : Option Addr) (m c : Nat) (hx : a.eval x = .slice A m c) (Y : List (List UInt8)) (hY : SlS w A m c Y) (hlen : X.length + Y.length ≤ 1000000000) (hbase : base ≤ w.heap.size) (w0 : World) (hb : Below base w0 w)
    (h : ∀ v' w', Hid (OwnS w' base e v' (X ++ Y)) → Below base w0 w' → w.heap.size ≤ w'.heap.size → wpList P ops Q rest (a.put o.dst v') w') : wpList P ops Q (o :: rest) a w := by
  obtain ⟨i0, hi, hz0, hz1, hz2⟩ := info_parts hI
  rcases A with _ | ad
  · obtain ⟨rfl, rfl, rfl⟩ := hY.none_eq
    refine wpList_append_own_none hgd s x t ho base e i0 1 ht hi v _ _ hs hown hx ?_
    exact h v w (by rw [List.append_nil]; exact hown) hb (Nat.le_refl _)
  · have hl := hY.len
    refine wpList_append_own w hgd s x t ho base e i0 (.string ByteArray.empty) 1 16 ht hi hz0 hz1 hz2 rfl (by decide) v _ _ hs hown ad m c (Y.map stV) hx (by rw [List.length_map, hl, Nat.mul_one]) hY.news (stV_ones _) (by unfold maxLen; omega) (by omega) hbase ?_
    intro v' w' hown' hgrow _
    refine h v' w' ?_ (hb.grown hgrow hbase (fun k hk => (hown.lt k hk).1)) hgrow.size
    show World.ownsRow _ _ _ _ _ _ _
    rw [List.length_append, hl, List.map_append]
    exact hown'

theorem SlS.texts (w : World) (t : TypeId) (L : List ByteArray) (hm : L.length ≤ maxLen) : SlS (w.alloc (.cells (L.map Value.string).toArray t)) (some ⟨w.heap.size, 0, none⟩) L.length L.length (L.map fun x => x.data.toList) := by
  refine ⟨by simp, Nat.le_refl _, hm, (fun e => by cases e), fun _ => ⟨_, rfl, fun j y hy => ?_⟩⟩
  rw [List.getElem?_map, Option.map_eq_some_iff] at hy
  obtain ⟨x, hx, rfl⟩ := hy
  rw [addr_add, cell_of_row _ _ _ _ _ _ (heap_alloc_new w _)]
  simp [hx, mkS_self]

/-- A row of strings that a literal makes. -/
theorem OwnS.lit (w : World) (e : TypeId) (X : List (List UInt8)) (cs : Array Value) (hcs : cs = (X.map stV).toArray) (hm : X.length ≤ maxLen) {base : Nat} (hb : base ≤ w.heap.size) : OwnS (w.alloc (.cells cs e)) base e (.slice (some ⟨w.heap.size, 0, none⟩) X.length X.length) X := by
  subst hcs
  have := World.ownsRow_lit (size := 1) (e := e) (base := base) w (X.map stV).toArray X.length hb hm (by simp)
  show World.ownsRow _ _ _ _ _ _ _
  simpa using this

end Go.Proofs.YthhlcecojeaalaaDoor
end

/-
  Two rows of strings of the call's own side by side: what is appended to one leaves the other as it was.
-/
section
namespace Go.Proofs.YthhlcecojeaalaaDoor
open Go.RowKit

/-- Two rows that don't lie in one block. -/
def Apt (u v : Value) : Prop := u.ownBlock = none ∨ u.ownBlock ≠ v.ownBlock
theorem Apt.symm {u v : Value} (h : Apt u v) : Apt v u := by
  rcases h with h | h
  · cases e : v.ownBlock with
    | none => exact .inl e
    | some k => exact .inr (by rw [h, e]; simp)
  · exact .inr fun e => h e.symm
theorem Apt.none_ (v : Value) : Apt (.slice none 0 0) v := .inl rfl

/-- What an append to v, which answers v', leaves as it was. -/
structure Grw (w w' : World) (v v' : Value) : Prop where
  kept : ∀ a x, w.cell? a = some x → some a.block ≠ v.ownBlock → w'.cell? a = some x
  at_ : v'.ownBlock = v.ownBlock ∨ v'.ownBlock = some w.heap.size
/-- A slice that does not lie in a row's block. -/
def Off (A : Option Addr) (v : Value) : Prop := ∀ ad, A = some ad → v.ownBlock ≠ some ad.block
theorem Off.nil (A : Option Addr) : Off A (.slice none 0 0) := fun _ _ => by simp [Value.ownBlock]
theorem addr_blk (ad : Addr) (k : Nat) : (ad.add k).block = ad.block := by
  unfold Addr.add
  split <;> rfl
theorem SlS.lt {w : World} {ad : Addr} {n c : Nat} {L : List (List UInt8)} (h : SlS w (some ad) n c L) (hn : 0 < n) : ad.block < w.heap.size := by
  obtain ⟨ad', e, hc⟩ := h.at_ hn
  cases e
  have h0 : 0 < L.length := by rw [h.len]; exact hn
  have := World.block_lt_of_cell? w _ (hc 0 L[0] (List.getElem?_eq_getElem h0))
  rwa [addr_blk] at this
end Go.Proofs.YthhlcecojeaalaaDoor
end

/-
  Laws for the walk on bytes of the call's own: append of a text, bytes made with room for more.
-/
section
namespace Go.Proofs.YthhlcecojeaalaaDoor
open Go.RowKit

/-- 'append(out, s...)', s a text. -/
theorem wpList_append_text {P : Program} {ops : Array Oper} {rest : List Oper} {o : Oper} {a : Act} {w : World} {Q : Exit → Act → World → Prop} (hgd : o.guard = none) (s x : Operand) (t u : TypeId)
    (ho : o.op = .call { callee := .builtin .append, args := #[s, x], argTypes := #[t, u] }) (base e : Nat) (ht : P.underlying t = some (.slice e)) (hu : P.underlying u = some .string)
    (hI : (P.info? e).map (fun i => (i.zero, i.size, i.bytes)) = some (some (.int .u8 0), 1, 1)) (v : Value) (hs : a.eval s = v) (X : List UInt8) (hown : Own8 w base e v X)
    (y : ByteArray) (hx : a.eval x = .string y) (hlen : X.length + y.size ≤ 1000000000) (hbase : base ≤ w.heap.size) (w0 : World) (hb : Below base w0 w)
    (h : ∀ v' w', Hid (Own8 w' base e v' (X ++ y.data.toList)) → Below base w0 w' → w.heap.size ≤ w'.heap.size → wpList P ops Q rest (a.put o.dst v') w') : wpList P ops Q (o :: rest) a w := by
  obtain ⟨i0, hi, hz0, hz1, hz2⟩ := info_parts hI
  refine Lib.wpList_append_own_string w hgd s x t u ho base e i0 ht hu hi hz0 hz1 hz2 v _ _ hs hown y hx (by unfold maxLen; omega) (by omega) hbase ?_
  intro v' w' hown' hgrow _
  refine h v' w' ?_ (hb.grown hgrow hbase (fun k hk => (hown.lt k hk).1)) hgrow.size
  show World.ownsRow _ _ _ _ _ _ _
  rw [List.length_append, ← Lib.size_eq, List.map_append]
  exact hown'

end Go.Proofs.YthhlcecojeaalaaDoor
end
