/-
  Texts that the laws of this seat lean on, one behind the other.
-/
import Derived.Test.YthhlcecojeaalaaDoorMrgF
import Derived.Deep.SlicePairs
import Derived.ChangeArms
import Derived.Test.YthhlcecojeaalaaDoorMrgA
import Derived.Deep.Slices
set_option linter.unusedSimpArgs false
set_option linter.unusedVariables false
/-
  Slices of structs of two strings (header fields): what a slice reads as, nil or not; rows of the call's own, and what is appended to them.
-/
section
namespace Go.Proofs.YthhlcecojeaalaaDoor
open Go.RowKit Go.ChangeShapes Go.WideShapes

/-- A field: its name and its value. -/
abbrev Fd := ByteArray × ByteArray
/-- A field that no sum of sizes is too great for. -/
def Bd (x : Fd) : Prop := x.1.size ≤ 1000000000 ∧ x.2.size ≤ 1000000000
theorem Bd.one {x : Fd} (h : Bd x) : x.1.size ≤ maxLen := by have := h.1; unfold maxLen; omega
theorem Bd.two {x : Fd} (h : Bd x) : x.2.size ≤ maxLen := by have := h.2; unfold maxLen; omega
def fdV (x : Fd) : Value := .agg #[.string x.1, .string x.2]
def fdC (L : List Fd) : List Value := L.flatMap fun x => [.string x.1, .string x.2]
theorem fdC_cons (x : Fd) (L : List Fd) : fdC (x :: L) = .string x.1 :: .string x.2 :: fdC L := rfl
theorem fdC_append (L M : List Fd) : fdC (L ++ M) = fdC L ++ fdC M := by simp [fdC]
theorem fdC_len : ∀ L : List Fd, (fdC L).length = L.length * 2
  | [] => rfl
  | x :: L => by rw [fdC_cons, List.length_cons, List.length_cons, fdC_len L, List.length_cons]; omega
theorem fdC_at : ∀ (L : List Fd) (j : Nat) (x : Fd), L[j]? = some x → (fdC L)[j * 2]? = some (.string x.1) ∧ (fdC L)[j * 2 + 1]? = some (.string x.2)
  | [], j, x, h => by simp at h
  | y :: L, 0, x, h => by
    simp only [List.getElem?_cons_zero, Option.some.injEq] at h
    subst h
    exact ⟨rfl, rfl⟩
  | y :: L, j + 1, x, h => by
    rw [List.getElem?_cons_succ] at h
    have := fdC_at L j x h
    rw [fdC_cons, show (j + 1) * 2 = j * 2 + 1 + 1 by omega, show j * 2 + 1 + 1 + 1 = (j * 2 + 1) + 1 + 1 by omega]
    simpa using this
theorem fdC_ones (L : List Fd) : ∀ u ∈ fdC L, u.oneCell' = true := fun u hu => by
  obtain ⟨x, _, hx⟩ := List.mem_flatMap.1 hu
  simp only [List.mem_cons, List.not_mem_nil, or_false] at hx
  rcases hx with rfl | rfl <;> rfl
theorem fdC_of (L : List Fd) (j : Nat) (u : Value) (h : (fdC L)[j]? = some u) : ∃ x, L[j / 2]? = some x ∧ ((j % 2 = 0 ∧ u = .string x.1) ∨ (j % 2 = 1 ∧ u = .string x.2)) := by
  have hj : j < (fdC L).length := (List.getElem?_eq_some_iff.1 h).1
  rw [fdC_len] at hj
  have hlt : j / 2 < L.length := by omega
  refine ⟨L[j / 2], List.getElem?_eq_getElem hlt, ?_⟩
  have hx := fdC_at L (j / 2) _ (List.getElem?_eq_getElem hlt)
  rcases Nat.mod_two_eq_zero_or_one j with e | e
  · rw [show j / 2 * 2 = j by omega, h] at hx
    exact .inl ⟨e, by simpa using hx.1⟩
  · rw [show j / 2 * 2 + 1 = j by omega, h] at hx
    exact .inr ⟨e, by simpa using hx.2⟩

/-- The slice of n fields at A, of capacity c, reads as L. -/
structure SlF (w : World) (A : Option Addr) (n c : Nat) (L : List Fd) : Prop where
  len : L.length = n
  cap : n ≤ c
  cm : c ≤ maxLen
  nil : A = none → c = 0
  at_ : 0 < n → ∃ ad, A = some ad ∧ ∀ j x, L[j]? = some x → w.cell? (ad.add (j * 2)) = some (.string x.1) ∧ w.cell? (ad.add (j * 2 + 1)) = some (.string x.2)
  sz : ∀ x ∈ L, x.1.size ≤ maxLen ∧ x.2.size ≤ maxLen

section
variable {w w' : World} {A : Option Addr} {n c : Nat} {L : List Fd}
theorem SlF.none_ (w : World) : SlF w none 0 0 [] := ⟨rfl, Nat.le_refl _, Nat.zero_le _, fun _ => rfl, fun h => absurd h (by omega), fun _ h => by cases h⟩
theorem SlF.none_eq (h : SlF w none n c L) : n = 0 ∧ c = 0 ∧ L = [] := by
  have h1 := h.nil rfl
  have h2 := h.cap
  have h3 := h.len
  exact ⟨by omega, h1, List.eq_nil_of_length_eq_zero (by omega)⟩
theorem SlF.keep (h : SlF w A n c L) (hk : ∀ a u, w.cell? a = some u → w'.cell? a = some u) : SlF w' A n c L :=
  ⟨h.len, h.cap, h.cm, h.nil, fun hn => by
    obtain ⟨ad, e, hc⟩ := h.at_ hn
    exact ⟨ad, e, fun j x hx => ⟨hk _ _ (hc j x hx).1, hk _ _ (hc j x hx).2⟩⟩, h.sz⟩
theorem SlF.below (h : SlF w A n c L) (hb : Below w.heap.size w w') : SlF w' A n c L := h.keep fun _ _ hu => cell_kept hb hu
theorem SlF.alloc (h : SlF w A n c L) (o : Obj) : SlF (w.alloc o) A n c L := h.keep fun _ _ hu => Lib.cell?_alloc_some o hu
theorem SlF.drew (h : SlF w A n c L) : SlF w.drew A n c L := ⟨h.len, h.cap, h.cm, h.nil, h.at_, h.sz⟩
theorem SlF.le (h : SlF w A n c L) : L.length ≤ maxLen := by have := h.len; have := h.cap; have := h.cm; omega
theorem SlF.cells {ad : Addr} (h : SlF w (some ad) n c L) : ∀ j x, L[j]? = some x → w.cell? (ad.add (j * 2)) = some (.string x.1) ∧ w.cell? (ad.add (j * 2 + 1)) = some (.string x.2) := fun j x hx => by
  have : j < L.length := (List.getElem?_eq_some_iff.1 hx).1
  obtain ⟨ad', e, hc⟩ := h.at_ (by have := h.len; omega)
  cases e
  exact hc j x hx
theorem SlF.news {ad : Addr} (h : SlF w (some ad) n c L) : ∀ j u, (fdC L)[j]? = some u → w.cell? (ad.add j) = some u := fun j u hu => by
  obtain ⟨x, hx, hj⟩ := fdC_of L j u hu
  have hc := h.cells _ x hx
  rcases hj with ⟨e, rfl⟩ | ⟨e, rfl⟩
  · rw [show j / 2 * 2 = j by omega] at hc; exact hc.1
  · rw [show j / 2 * 2 + 1 = j by omega] at hc; exact hc.2

theorem SlF.of_own {base e : Nat} {v : Value} (h : w.ownsRow base e 2 v n (fdC L)) (hz : ∀ x ∈ L, x.1.size ≤ maxLen ∧ x.2.size ≤ maxLen) : ∃ A c, v = .slice A n c ∧ SlF w A n c L := by
  have hl : L.length = n := by have := h.1; rw [fdC_len] at this; omega
  rcases h.2 with ⟨rfl, rfl⟩ | ⟨g, cap, cur, rfl, _, hg, hnc, hcm, hcs, ht⟩
  · obtain rfl : L = [] := List.eq_nil_of_length_eq_zero hl
    exact ⟨_, _, rfl, SlF.none_ w⟩
  · exact ⟨_, _, rfl, hl, hnc, hcm, (fun e => by cases e), (fun _ => ⟨_, rfl, fun j x hx => ⟨h.cells (g := g) rfl _ _ (fdC_at L j x hx).1, h.cells (g := g) rfl _ _ (fdC_at L j x hx).2⟩⟩), hz⟩

theorem SlF.of_trod {H : Type} {enc : TypeId × Value → H} {P : Program} {base : Nat} {held : Bool} {t e : TypeId} {f0 f1 : Field} {d : DataW H} {p : List MemPlace} (ht : P.underlying t = some (.slice e)) (he : P.underlying e = some (.struct #[f0, f1]))
    (ce : P.cellsOf e = 2) (o0 : f0.offset = 0) (o1 : f1.offset = 1) (c0 : P.cellsOf f0.type = 1) (c1 : P.cellsOf f1.type = 1) (i0 : P.underlying f0.type = some .string) (i1 : P.underlying f1.type = some .string)
    (h : DataW.Trod enc P w base (fun _ => true) held t (.slice A n c) d p) : ∃ L, SlF w A n c L := by
  obtain ⟨fuel, hf⟩ := h
  rcases Deep.open_slice_pairs ht he ce o0 o1 c0 c1 hf with ⟨hcs, _⟩ | ⟨a, len, cap, m, n', V0, V1, D0, D1, P0, P1, hcs, _, hl, hm, hmm, _, hx⟩
  · simp [Value.cells] at hcs
    obtain ⟨rfl, rfl, rfl⟩ := hcs
    exact ⟨[], SlF.none_ w⟩
  · simp [Value.cells] at hcs
    obtain ⟨rfl, rfl, rfl⟩ := hcs
    have hmc : n ≤ m := by rw [hmm]; simpa using hl
    have each : ∀ i, i < n → ∃ x : Fd, w.cell? (a.add (i * 2)) = some (.string x.1) ∧ w.cell? (a.add (i * 2 + 1)) = some (.string x.2) ∧ x.1.size ≤ maxLen ∧ x.2.size ≤ maxLen := fun i hi => by
      obtain ⟨h1, h2, h3, h4⟩ := hx i (by omega)
      obtain ⟨k0, e0, _, w0⟩ := DataW.trod_string i0 h3
      obtain ⟨k1, e1, _, w1⟩ := DataW.trod_string i1 h4
      simp only [List.cons.injEq, and_true] at e0 e1
      exact ⟨(k0, k1), by rw [h1, e0], by rw [h2, e1], w0, w1⟩
    obtain ⟨q, hq⟩ := Deep.choose_lt each
    refine ⟨(List.range n).map q, by simp, hl, hm, (fun e => by cases e), fun _ => ⟨a, rfl, fun j x hj => ?_⟩, fun x hx => ?_⟩
    · rw [List.getElem?_map, Option.map_eq_some_iff] at hj
      obtain ⟨i, hi, rfl⟩ := hj
      obtain ⟨h1, h2⟩ := List.getElem?_eq_some_iff.1 hi
      simp only [List.length_range, List.getElem_range] at h1 h2
      subst h2
      exact ⟨(hq j h1).1, (hq j h1).2.1⟩
    · obtain ⟨i, hi, rfl⟩ := List.mem_map.1 hx
      exact (hq i (List.mem_range.1 hi)).2.2
end

/-- The second cell of a field, as a load asks for it. -/
theorem fd_snd {w : World} {ad : Addr} {k : Nat} {v : Value} (h : w.cell? (ad.add (k * 2 + 1)) = some v) : w.cell? { block := (ad.add (k * 2)).block, off := (ad.add (k * 2)).off + 1 } = some v := by
  rw [← Go.Addr.add_add] at h
  rwa [Addr.add_succ'] at h

/-- A block of one field. -/
theorem SlF.one (w : World) (t : TypeId) (x : Fd) (hz : x.1.size ≤ maxLen ∧ x.2.size ≤ maxLen) : SlF (w.alloc (.cells #[.string x.1, .string x.2] t)) (some ⟨w.heap.size, 0, none⟩) 1 1 [x] := by
  refine ⟨rfl, Nat.le_refl _, by decide, (fun e => by cases e), fun _ => ⟨_, rfl, fun j y hy => ?_⟩, fun y hy => ?_⟩
  · rcases j with _ | j
    · simp only [List.getElem?_cons_zero, Option.some.injEq] at hy
      subst hy
      rw [addr_add, addr_add, cell_of_row _ _ _ _ _ _ (heap_alloc_new w _), cell_of_row _ _ _ _ _ _ (heap_alloc_new w _)]
      exact ⟨rfl, rfl⟩
    · simp at hy
  · simp only [List.mem_singleton] at hy
    subst hy
    exact hz

/-- Fields in memory of the call's own, from block 'base' on. -/
def OwnF (w : World) (base e : Nat) (v : Value) (X : List Fd) : Prop := w.ownsRow base e 2 v X.length (fdC X)
theorem OwnF.slf {w : World} {base e : Nat} {v : Value} {X : List Fd} (h : OwnF w base e v X) (hz : ∀ x ∈ X, x.1.size ≤ maxLen ∧ x.2.size ≤ maxLen) : ∃ A c, v = .slice A X.length c ∧ SlF w A X.length c X := SlF.of_own h hz
theorem OwnF.form {w : World} {base e : Nat} {v : Value} {X : List Fd} (h : OwnF w base e v X) : ∃ A c, v = .slice A X.length c := by
  rcases h.2 with ⟨rfl, h0⟩ | ⟨g, cap, cur, rfl, _⟩
  · exact ⟨none, 0, by rw [h0]⟩
  · exact ⟨_, _, rfl⟩
theorem OwnF.nil (w : World) (base e : Nat) : OwnF w base e (.slice none 0 0) [] := World.ownsRow_nil _ _ _ _
theorem OwnF.alloc {w : World} {base e : Nat} {v : Value} {X : List Fd} (h : OwnF w base e v X) (o : Obj) : OwnF (w.alloc o) base e v X := World.ownsRow.alloc h o
theorem OwnF.drew {w : World} {base e : Nat} {v : Value} {X : List Fd} (h : OwnF w base e v X) : OwnF w.drew base e v X := World.ownsRow.drew h
theorem OwnF.below {w w' : World} {base e : Nat} {v : Value} {X : List Fd} (h : OwnF w base e v X) (hb : Below w.heap.size w w') : OwnF w' base e v X := ownsRow_below h hb

theorem OwnF.wide {w : World} {base base' e : Nat} {v : Value} {X : List Fd} (h : OwnF w base e v X) (hb : base' ≤ base) : OwnF w base' e v X := by
  refine ⟨h.1, ?_⟩
  rcases h.2 with h2 | ⟨g, cap, cur, h1, h2, h3⟩
  · exact .inl h2
  · exact .inr ⟨g, cap, cur, h1, by omega, h3⟩

/-- 'append(out, xs...)' on fields: out the call's own, xs any slice, nil or not. -/
theorem wpList_append_slf {P : Program} {ops : Array Oper} {rest : List Oper} {o : Oper} {a : Act} {w : World} {Q : Exit → Act → World → Prop} (hgd : o.guard = none) (s x : Operand) (t : TypeId)
    (ho : o.op = .call { callee := .builtin .append, args := #[s, x], argTypes := #[t, t] }) (base e : Nat) (ht : P.underlying t = some (.slice e))
    (hI : (P.info? e).map (fun i => (i.zero, i.size, i.bytes)) = some (some (.agg #[.string ⟨#[]⟩, .string ⟨#[]⟩]), 2, 32)) (v : Value) (hs : a.eval s = v) (X : List Fd) (hown : OwnF w base e v X)
    (A : Option Addr) (m c : Nat) (hx : a.eval x = .slice A m c) (Y : List Fd) (hY : SlF w A m c Y) (hlen : X.length + Y.length ≤ 1000000000) (hbase : base ≤ w.heap.size) (w0 : World) (hb : Below base w0 w)
    (h : ∀ v' w', Hid (OwnF w' base e v' (X ++ Y)) → Below base w0 w' → w.heap.size ≤ w'.heap.size → wpList P ops Q rest (a.put o.dst v') w') : wpList P ops Q (o :: rest) a w := by
  obtain ⟨i0, hi, hz0, hz1, hz2⟩ := info_parts hI
  rcases A with _ | ad
  · obtain ⟨rfl, rfl, rfl⟩ := hY.none_eq
    refine wpList_append_own_none hgd s x t ho base e i0 2 ht hi v _ _ hs hown hx ?_
    exact h v w (by rw [List.append_nil]; exact hown) hb (Nat.le_refl _)
  · have hl := hY.len
    refine wpList_append_own w hgd s x t ho base e i0 (.agg #[.string ⟨#[]⟩, .string ⟨#[]⟩]) 2 32 ht hi hz0 hz1 hz2 rfl (by decide) v _ _ hs hown ad m c (fdC Y) hx (by rw [fdC_len, hl]) hY.news (fdC_ones _) (by unfold maxLen; omega) (by omega) hbase ?_
    intro v' w' hown' hgrow _
    refine h v' w' ?_ (hb.grown hgrow hbase (fun k hk => (hown.lt k hk).1)) hgrow.size
    show World.ownsRow _ _ _ _ _ _ _
    rw [List.length_append, hl, fdC_append]
    exact hown'

/-! ### A variable that a call leaves as it was -/
theorem zero_then {W w2 : World} {o : Obj} (hb : Below (W.alloc o).heap.size (W.alloc o) w2) : Below W.heap.size W w2 := ((Below.refl _ _).alloc (Nat.le_refl _) o).trans (hb.mono (by simp))
theorem zero_at {W w2 : World} {o : Obj} (hb : Below (W.alloc o).heap.size (W.alloc o) w2) : w2.heap[W.heap.size]? = some o := (hb.block _ (by simp)).trans (heap_alloc_new W o)
theorem zero_still {W w2 : World} {o : Obj} {B : Nat} (hb : Below W.heap.size W w2) (h : W.heap[B]? = some o) : w2.heap[B]? = some o := (hb.block _ (Array.getElem?_eq_some_iff.1 h).1).trans h
theorem zero_two {W : World} {g t : Nat} {c0 c1 : Value} (h : W.heap[g]? = some (.cells #[c0, c1] t (0, 0))) : W.cell? ⟨g, 0, none⟩ = some c0 ∧ W.cell? ⟨g, 1, none⟩ = some c1 :=
  ⟨(cell_of_row _ _ 0 _ _ _ h).trans rfl, (cell_of_row _ _ 1 _ _ _ h).trans rfl⟩
theorem zero_one {W : World} {g t : Nat} {c0 : Value} (h : W.heap[g]? = some (.cells #[c0] t (0, 0))) : W.cell? ⟨g, 0, none⟩ = some c0 := (cell_of_row _ _ 0 _ _ _ h).trans rfl
theorem zero_more {W : World} {g : Nat} {o o' : Obj} (h : W.heap[g]? = some o) : (W.alloc o').heap[g]? = some o := (Below.heap_alloc W o' g (Array.getElem?_eq_some_iff.1 h).1).trans h

end Go.Proofs.YthhlcecojeaalaaDoor
end

/-
  Plain facts of a field and its line (layer 9), without items: prpF, lineS, what Parse answers; a variable of two cells.
-/
section
namespace Go.Proofs.YthhlcecojeaalaaDoor
open Go.RowKit

/-- May a field be, but for its length? -/
def prpF (x : Fd) : Bool := ((!x.1.toList.isEmpty && allB tokB x.1.data.toList) && allB txtB x.2.data.toList) && ((mkS (trimL x.2.data.toList)).toList == x.2.toList)
def lineS (x : Fd) : ByteArray := x.1 ++ (⟨#[58, 32]⟩ : ByteArray) ++ x.2
def lngF (x : Fd) : Bool := decide (8192 < x.1.size + 2 + x.2.size)
/-! ### Parse -/
def flT (s : ByteArray) : Fd := (cutA s 58, mkS (trimL (cutZ s 58).data.toList))
def flO (s : ByteArray) : Bool := cutOk s 58 && ((!(flT s).1.toList.isEmpty && allB tokB (flT s).1.data.toList) && allB txtB (flT s).2.data.toList)
def flF (s : ByteArray) : Fd := if 8192 < s.size then (⟨#[]⟩, ⟨#[]⟩) else if flO s then flT s else (⟨#[]⟩, ⟨#[]⟩)
def flX (s : ByteArray) : Int := if 8192 < s.size then 4 else if flO s then 0 else 21
end Go.Proofs.YthhlcecojeaalaaDoor
end

/-
  Slices of structs of a text, a flag and a text (picks): what a slice reads as, nil or not; rows of the call's own, and what is appended to them.
-/
section
namespace Go.Proofs.YthhlcecojeaalaaDoor
open Go.RowKit Go.ChangeShapes Go.WideShapes

/-- A pick: a name, whether there is such a field, its value. -/
structure Pk where
  n : ByteArray
  h : Bool
  v : ByteArray
def pkV (x : Pk) : Value := .agg #[.string x.n, .bool x.h, .string x.v]
def pkC (L : List Pk) : List Value := L.flatMap fun x => [.string x.n, .bool x.h, .string x.v]
theorem pkC_cons (x : Pk) (L : List Pk) : pkC (x :: L) = .string x.n :: .bool x.h :: .string x.v :: pkC L := rfl
theorem pkC_append (L M : List Pk) : pkC (L ++ M) = pkC L ++ pkC M := by simp [pkC]
theorem pkC_len : ∀ L : List Pk, (pkC L).length = L.length * 3
  | [] => rfl
  | x :: L => by rw [pkC_cons, List.length_cons, List.length_cons, List.length_cons, pkC_len L, List.length_cons]; omega
theorem pkC_at : ∀ (L : List Pk) (j : Nat) (x : Pk), L[j]? = some x → (pkC L)[j * 3]? = some (.string x.n) ∧ (pkC L)[j * 3 + 1]? = some (.bool x.h) ∧ (pkC L)[j * 3 + 2]? = some (.string x.v)
  | [], j, x, h => by simp at h
  | y :: L, 0, x, h => by
    simp only [List.getElem?_cons_zero, Option.some.injEq] at h
    subst h
    exact ⟨rfl, rfl, rfl⟩
  | y :: L, j + 1, x, h => by
    rw [List.getElem?_cons_succ] at h
    have := pkC_at L j x h
    rw [pkC_cons, show (j + 1) * 3 = j * 3 + 1 + 1 + 1 by omega, show j * 3 + 1 + 1 + 1 + 1 = (j * 3 + 1) + 1 + 1 + 1 by omega, show j * 3 + 1 + 1 + 1 + 2 = (j * 3 + 2) + 1 + 1 + 1 by omega]
    simpa using this
theorem pkC_ones (L : List Pk) : ∀ u ∈ pkC L, u.oneCell' = true := fun u hu => by
  obtain ⟨x, _, hx⟩ := List.mem_flatMap.1 hu
  simp only [List.mem_cons, List.not_mem_nil, or_false] at hx
  rcases hx with rfl | rfl | rfl <;> rfl
theorem pkC_of (L : List Pk) (j : Nat) (u : Value) (h : (pkC L)[j]? = some u) : ∃ x, L[j / 3]? = some x ∧ ((j % 3 = 0 ∧ u = .string x.n) ∨ (j % 3 = 1 ∧ u = .bool x.h) ∨ (j % 3 = 2 ∧ u = .string x.v)) := by
  have hj : j < (pkC L).length := (List.getElem?_eq_some_iff.1 h).1
  rw [pkC_len] at hj
  have hlt : j / 3 < L.length := by omega
  refine ⟨L[j / 3], List.getElem?_eq_getElem hlt, ?_⟩
  have hx := pkC_at L (j / 3) _ (List.getElem?_eq_getElem hlt)
  have hm : j % 3 = 0 ∨ j % 3 = 1 ∨ j % 3 = 2 := by omega
  rcases hm with e | e | e
  · rw [show j / 3 * 3 = j by omega, h] at hx
    exact .inl ⟨e, by simpa using hx.1⟩
  · rw [show j / 3 * 3 + 1 = j by omega, h] at hx
    exact .inr (.inl ⟨e, by simpa using hx.2.1⟩)
  · rw [show j / 3 * 3 + 2 = j by omega, h] at hx
    exact .inr (.inr ⟨e, by simpa using hx.2.2⟩)

/-- The slice of n picks at A, of capacity c, reads as L. -/
structure SlK (w : World) (A : Option Addr) (n c : Nat) (L : List Pk) : Prop where
  len : L.length = n
  cap : n ≤ c
  cm : c ≤ maxLen
  nil : A = none → c = 0
  at_ : 0 < n → ∃ ad, A = some ad ∧ ∀ j x, L[j]? = some x → w.cell? (ad.add (j * 3)) = some (.string x.n) ∧ w.cell? (ad.add (j * 3 + 1)) = some (.bool x.h) ∧ w.cell? (ad.add (j * 3 + 2)) = some (.string x.v)
  sz : ∀ x ∈ L, x.n.size ≤ maxLen ∧ x.v.size ≤ maxLen

section
variable {w w' : World} {A : Option Addr} {n c : Nat} {L : List Pk}
theorem SlK.none_ (w : World) : SlK w none 0 0 [] := ⟨rfl, Nat.le_refl _, Nat.zero_le _, fun _ => rfl, fun h => absurd h (by omega), fun _ h => by cases h⟩
theorem SlK.none_eq (h : SlK w none n c L) : n = 0 ∧ c = 0 ∧ L = [] := by
  have h1 := h.nil rfl
  have h2 := h.cap
  have h3 := h.len
  exact ⟨by omega, h1, List.eq_nil_of_length_eq_zero (by omega)⟩
theorem SlK.keep (h : SlK w A n c L) (hk : ∀ a u, w.cell? a = some u → w'.cell? a = some u) : SlK w' A n c L :=
  ⟨h.len, h.cap, h.cm, h.nil, fun hn => by
    obtain ⟨ad, e, hc⟩ := h.at_ hn
    exact ⟨ad, e, fun j x hx => ⟨hk _ _ (hc j x hx).1, hk _ _ (hc j x hx).2.1, hk _ _ (hc j x hx).2.2⟩⟩, h.sz⟩
theorem SlK.below (h : SlK w A n c L) (hb : Below w.heap.size w w') : SlK w' A n c L := h.keep fun _ _ hu => cell_kept hb hu
theorem SlK.alloc (h : SlK w A n c L) (o : Obj) : SlK (w.alloc o) A n c L := h.keep fun _ _ hu => Lib.cell?_alloc_some o hu
theorem SlK.drew (h : SlK w A n c L) : SlK w.drew A n c L := ⟨h.len, h.cap, h.cm, h.nil, h.at_, h.sz⟩
theorem SlK.le (h : SlK w A n c L) : L.length ≤ maxLen := by have := h.len; have := h.cap; have := h.cm; omega
theorem SlK.cells {ad : Addr} (h : SlK w (some ad) n c L) : ∀ j x, L[j]? = some x → w.cell? (ad.add (j * 3)) = some (.string x.n) ∧ w.cell? (ad.add (j * 3 + 1)) = some (.bool x.h) ∧ w.cell? (ad.add (j * 3 + 2)) = some (.string x.v) := fun j x hx => by
  have : j < L.length := (List.getElem?_eq_some_iff.1 hx).1
  obtain ⟨ad', e, hc⟩ := h.at_ (by have := h.len; omega)
  cases e
  exact hc j x hx
theorem SlK.news {ad : Addr} (h : SlK w (some ad) n c L) : ∀ j u, (pkC L)[j]? = some u → w.cell? (ad.add j) = some u := fun j u hu => by
  obtain ⟨x, hx, hj⟩ := pkC_of L j u hu
  have hc := h.cells _ x hx
  rcases hj with ⟨e, rfl⟩ | ⟨e, rfl⟩ | ⟨e, rfl⟩
  · rw [show j / 3 * 3 = j by omega] at hc; exact hc.1
  · rw [show j / 3 * 3 + 1 = j by omega] at hc; exact hc.2.1
  · rw [show j / 3 * 3 + 2 = j by omega] at hc; exact hc.2.2

theorem SlK.of_own {base e : Nat} {v : Value} (h : w.ownsRow base e 3 v n (pkC L)) (hz : ∀ x ∈ L, x.n.size ≤ maxLen ∧ x.v.size ≤ maxLen) : ∃ A c, v = .slice A n c ∧ SlK w A n c L := by
  have hl : L.length = n := by have := h.1; rw [pkC_len] at this; omega
  rcases h.2 with ⟨rfl, rfl⟩ | ⟨g, cap, cur, rfl, _, hg, hnc, hcm, hcs, ht⟩
  · obtain rfl : L = [] := List.eq_nil_of_length_eq_zero hl
    exact ⟨_, _, rfl, SlK.none_ w⟩
  · exact ⟨_, _, rfl, hl, hnc, hcm, (fun e => by cases e), (fun _ => ⟨_, rfl, fun j x hx => ⟨h.cells (g := g) rfl _ _ (pkC_at L j x hx).1, h.cells (g := g) rfl _ _ (pkC_at L j x hx).2.1, h.cells (g := g) rfl _ _ (pkC_at L j x hx).2.2⟩⟩), hz⟩

end

/-- A slice of picks that comes in. -/
theorem SlK.of_trod {H : Type} {enc : TypeId × Value → H} {P : Program} {w : World} {base : Nat} {held : Bool} {t e : TypeId} {f0 f1 f2 : Field} {d : DataW H} {p : List MemPlace} {A : Option Addr} {n c : Nat} (ht : P.underlying t = some (.slice e)) (he : P.underlying e = some (.struct #[f0, f1, f2]))
    (ce : P.cellsOf e = 3) (o0 : f0.offset = 0) (o1 : f1.offset = 1) (o2 : f2.offset = 2) (c0 : P.cellsOf f0.type = 1) (c1 : P.cellsOf f1.type = 1) (c2 : P.cellsOf f2.type = 1) (i0 : P.underlying f0.type = some .string) (i1 : P.underlying f1.type = some .bool) (i2 : P.underlying f2.type = some .string)
    (h : DataW.Trod enc P w base (fun _ => true) held t (.slice A n c) d p) : ∃ L, SlK w A n c L := by
  obtain ⟨fuel, hf⟩ := h
  rcases Deep.open_slice ht hf with ⟨hcs, _⟩ | ⟨a, len, cap, m, n', D, Pl, hcs, _, hl, hm, hmm, _, hx⟩
  · simp [Value.cells] at hcs
    obtain ⟨rfl, rfl, rfl⟩ := hcs
    exact ⟨[], SlK.none_ w⟩
  · simp [Value.cells] at hcs
    obtain ⟨rfl, rfl, rfl⟩ := hcs
    have hmc : n ≤ m := by rw [hmm]; simpa using hl
    have each : ∀ i, i < n → ∃ x : Pk, w.cell? (a.add (i * 3)) = some (.string x.n) ∧ w.cell? (a.add (i * 3 + 1)) = some (.bool x.h) ∧ w.cell? (a.add (i * 3 + 2)) = some (.string x.v) ∧ x.n.size ≤ maxLen ∧ x.v.size ≤ maxLen := fun i hi => by
      obtain ⟨cs', h1, h2⟩ := hx i (by omega)
      rw [ce] at h1
      obtain ⟨_, hlen, hcell⟩ := World.cells?_some h1
      obtain ⟨xs, k, hk, hxy, _, hxl, hg⟩ := DataW.trod_struct he h2
      match xs, hxl, cs', hlen with
      | [y0, y1, y2], _, [v0, v1, v2], _ =>
        have g0 := hg 0 f0 rfl
        have g1 := hg 1 f1 rfl
        have g2 := hg 2 f2 rfl
        simp [o0, o1, o2, c0, c1, c2] at g0 g1 g2
        have e0 := hcell 0 (by omega)
        have e1 := hcell 1 (by omega)
        have e2 := hcell 2 (by omega)
        rw [Go.Addr.add_add] at e0 e1 e2
        obtain ⟨k0, q0, _, w0⟩ := DataW.trod_string i0 g0
        obtain ⟨k1, q1, _⟩ := DataW.trod_bool i1 g1
        obtain ⟨k2, q2, _, w2⟩ := DataW.trod_string i2 g2
        simp only [List.cons.injEq, and_true] at q0 q1 q2
        subst q0 q1 q2
        exact ⟨⟨k0, k1, k2⟩, by simpa using e0, by simpa using e1, by simpa using e2, w0, w2⟩
    have : Inhabited Pk := ⟨⟨⟨#[]⟩, false, ⟨#[]⟩⟩⟩
    obtain ⟨q, hq⟩ := Deep.choose_lt each
    refine ⟨(List.range n).map q, by simp, hl, hm, (fun e => by cases e), fun _ => ⟨a, rfl, fun j x hj => ?_⟩, fun x hx => ?_⟩
    · rw [List.getElem?_map, Option.map_eq_some_iff] at hj
      obtain ⟨i, hi, rfl⟩ := hj
      obtain ⟨h1, h2⟩ := List.getElem?_eq_some_iff.1 hi
      simp only [List.length_range, List.getElem_range] at h1 h2
      subst h2
      exact ⟨(hq j h1).1, (hq j h1).2.1, (hq j h1).2.2.1⟩
    · obtain ⟨i, hi, rfl⟩ := List.mem_map.1 hx
      exact (hq i (List.mem_range.1 hi)).2.2.2

/-- A block of one pick. -/
theorem SlK.one (w : World) (t : TypeId) (x : Pk) (hz : x.n.size ≤ maxLen ∧ x.v.size ≤ maxLen) : SlK (w.alloc (.cells #[.string x.n, .bool x.h, .string x.v] t)) (some ⟨w.heap.size, 0, none⟩) 1 1 [x] := by
  refine ⟨rfl, Nat.le_refl _, by decide, (fun e => by cases e), fun _ => ⟨_, rfl, fun j y hy => ?_⟩, fun y hy => ?_⟩
  · rcases j with _ | j
    · simp only [List.getElem?_cons_zero, Option.some.injEq] at hy
      subst hy
      rw [addr_add, addr_add, addr_add, cell_of_row _ _ _ _ _ _ (heap_alloc_new w _), cell_of_row _ _ _ _ _ _ (heap_alloc_new w _), cell_of_row _ _ _ _ _ _ (heap_alloc_new w _)]
      exact ⟨rfl, rfl, rfl⟩
    · simp at hy
  · simp only [List.mem_singleton] at hy
    subst hy
    exact hz

/-- Picks in memory of the call's own, from block 'base' on. -/
def OwnK (w : World) (base e : Nat) (v : Value) (X : List Pk) : Prop := w.ownsRow base e 3 v X.length (pkC X)
theorem OwnK.slk {w : World} {base e : Nat} {v : Value} {X : List Pk} (h : OwnK w base e v X) (hz : ∀ x ∈ X, x.n.size ≤ maxLen ∧ x.v.size ≤ maxLen) : ∃ A c, v = .slice A X.length c ∧ SlK w A X.length c X := SlK.of_own h hz
theorem OwnK.form {w : World} {base e : Nat} {v : Value} {X : List Pk} (h : OwnK w base e v X) : ∃ A c, v = .slice A X.length c := by
  rcases h.2 with ⟨rfl, h0⟩ | ⟨g, cap, cur, rfl, _⟩
  · exact ⟨none, 0, by rw [h0]⟩
  · exact ⟨_, _, rfl⟩
theorem OwnK.nil (w : World) (base e : Nat) : OwnK w base e (.slice none 0 0) [] := World.ownsRow_nil _ _ _ _
theorem OwnK.alloc {w : World} {base e : Nat} {v : Value} {X : List Pk} (h : OwnK w base e v X) (o : Obj) : OwnK (w.alloc o) base e v X := World.ownsRow.alloc h o
theorem OwnK.drew {w : World} {base e : Nat} {v : Value} {X : List Pk} (h : OwnK w base e v X) : OwnK w.drew base e v X := World.ownsRow.drew h
theorem OwnK.below {w w' : World} {base e : Nat} {v : Value} {X : List Pk} (h : OwnK w base e v X) (hb : Below w.heap.size w w') : OwnK w' base e v X := ownsRow_below h hb
theorem OwnK.wide {w : World} {base base' e : Nat} {v : Value} {X : List Pk} (h : OwnK w base e v X) (hb : base' ≤ base) : OwnK w base' e v X := by
  refine ⟨h.1, ?_⟩
  rcases h.2 with h2 | ⟨g, cap, cur, h1, h2, h3⟩
  · exact .inl h2
  · exact .inr ⟨g, cap, cur, h1, by omega, h3⟩

/-- 'append(out, xs...)' on picks: out the call's own, xs any slice, nil or not. -/
theorem wpList_append_slk {P : Program} {ops : Array Oper} {rest : List Oper} {o : Oper} {a : Act} {w : World} {Q : Exit → Act → World → Prop} (hgd : o.guard = none) (s x : Operand) (t : TypeId)
    (ho : o.op = .call { callee := .builtin .append, args := #[s, x], argTypes := #[t, t] }) (base e : Nat) (ht : P.underlying t = some (.slice e))
    (hI : (P.info? e).map (fun i => (i.zero, i.size, i.bytes)) = some (some (.agg #[.string ⟨#[]⟩, .bool false, .string ⟨#[]⟩]), 3, 40)) (v : Value) (hs : a.eval s = v) (X : List Pk) (hown : OwnK w base e v X)
    (A : Option Addr) (m c : Nat) (hx : a.eval x = .slice A m c) (Y : List Pk) (hY : SlK w A m c Y) (hlen : X.length + Y.length ≤ 100000000) (hbase : base ≤ w.heap.size) (w0 : World) (hb : Below base w0 w)
    (h : ∀ v' w', Hid (OwnK w' base e v' (X ++ Y)) → Below base w0 w' → w.heap.size ≤ w'.heap.size → wpList P ops Q rest (a.put o.dst v') w') : wpList P ops Q (o :: rest) a w := by
  obtain ⟨i0, hi, hz0, hz1, hz2⟩ := info_parts hI
  rcases A with _ | ad
  · obtain ⟨rfl, rfl, rfl⟩ := hY.none_eq
    refine wpList_append_own_none hgd s x t ho base e i0 3 ht hi v _ _ hs hown hx ?_
    exact h v w (by rw [List.append_nil]; exact hown) hb (Nat.le_refl _)
  · have hl := hY.len
    refine wpList_append_own w hgd s x t ho base e i0 (.agg #[.string ⟨#[]⟩, .bool false, .string ⟨#[]⟩]) 3 40 ht hi hz0 hz1 hz2 rfl (by decide) v _ _ hs hown ad m c (pkC Y) hx (by rw [pkC_len, hl]) hY.news (pkC_ones _) (by unfold maxLen; omega) (by omega) hbase ?_
    intro v' w' hown' hgrow _
    refine h v' w' ?_ (hb.grown hgrow hbase (fun k hk => (hown.lt k hk).1)) hgrow.size
    show World.ownsRow _ _ _ _ _ _ _
    rw [List.length_append, hl, pkC_append]
    exact hown'

end Go.Proofs.YthhlcecojeaalaaDoor
end
