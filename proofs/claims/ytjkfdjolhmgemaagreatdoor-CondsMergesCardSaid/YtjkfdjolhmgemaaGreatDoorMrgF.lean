/-
  Texts that the laws of this seat lean on, one behind the other.
-/
import Derived.Test.YtjkfdjolhmgemaaGreatDoorMrgE
import Derived.Deep.SlicePairs
import Derived.ChangeArms
import Derived.Test.YtjkfdjolhmgemaaGreatDoorMrgA
set_option linter.unusedSimpArgs false
set_option linter.unusedVariables false
/-
  Slices of structs of two strings (header fields): what a slice reads as, nil or not; rows of the call's own, and what is appended to them.
-/
section
namespace Go.Proofs.YtjkfdjolhmgemaaGreatDoor
open Go.RowKit Go.ChangeShapes Go.WideShapes

/-- A field: its name and its value. -/
abbrev Fd := ByteArray × ByteArray
/-- A field that no sum of sizes is too great for. -/
def Bd (x : Fd) : Prop := x.1.size ≤ 1000000000 ∧ x.2.size ≤ 1000000000
theorem Bd.one {x : Fd} (h : Bd x) : x.1.size ≤ maxLen := by have := h.1; unfold maxLen; omega
theorem Bd.two {x : Fd} (h : Bd x) : x.2.size ≤ maxLen := by have := h.2; unfold maxLen; omega
def fdV (x : Fd) : Value := .agg #[.string x.1, .string x.2]
def fdC (L : List Fd) : List Value := L.flatMap fun x => [.string x.1, .string x.2]
theorem fdC_cons (x : Fd) (L : List Fd) : fdC (x :: L) = .string x.1 :: .string x.2 :: fdC L := rfl
theorem fdC_append (L M : List Fd) : fdC (L ++ M) = fdC L ++ fdC M := by simp [fdC]
theorem fdC_len : ∀ L : List Fd, (fdC L).length = L.length * 2
  | [] => rfl
  | x :: L => by rw [fdC_cons, List.length_cons, List.length_cons, fdC_len L, List.length_cons]; omega
theorem fdC_at : ∀ (L : List Fd) (j : Nat) (x : Fd), L[j]? = some x → (fdC L)[j * 2]? = some (.string x.1) ∧ (fdC L)[j * 2 + 1]? = some (.string x.2)
  | [], j, x, h => by simp at h
  | y :: L, 0, x, h => by
    simp only [List.getElem?_cons_zero, Option.some.injEq] at h
    subst h
    exact ⟨rfl, rfl⟩
  | y :: L, j + 1, x, h => by
    rw [List.getElem?_cons_succ] at h
    have := fdC_at L j x h
    rw [fdC_cons, show (j + 1) * 2 = j * 2 + 1 + 1 by omega, show j * 2 + 1 + 1 + 1 = (j * 2 + 1) + 1 + 1 by omega]
    simpa using this
theorem fdC_ones (L : List Fd) : ∀ u ∈ fdC L, u.oneCell' = true := fun u hu => by
  obtain ⟨x, _, hx⟩ := List.mem_flatMap.1 hu
  simp only [List.mem_cons, List.not_mem_nil, or_false] at hx
  rcases hx with rfl | rfl <;> rfl
theorem fdC_of (L : List Fd) (j : Nat) (u : Value) (h : (fdC L)[j]? = some u) : ∃ x, L[j / 2]? = some x ∧ ((j % 2 = 0 ∧ u = .string x.1) ∨ (j % 2 = 1 ∧ u = .string x.2)) := by
  have hj : j < (fdC L).length := (List.getElem?_eq_some_iff.1 h).1
  rw [fdC_len] at hj
  have hlt : j / 2 < L.length := by omega
  refine ⟨L[j / 2], List.getElem?_eq_getElem hlt, ?_⟩
  have hx := fdC_at L (j / 2) _ (List.getElem?_eq_getElem hlt)
  rcases Nat.mod_two_eq_zero_or_one j with e | e
  · rw [show j / 2 * 2 = j by omega, h] at hx
    exact .inl ⟨e, by simpa using hx.1⟩
  · rw [show j / 2 * 2 + 1 = j by omega, h] at hx
    exact .inr ⟨e, by simpa using hx.2⟩

/-- The slice of n fields at A, of capacity c, reads as L. -/
structure SlF (w : World) (A : Option Addr) (n c : Nat) (L : List Fd) : Prop where
  len : L.length = n
  cap : n ≤ c
  cm : c ≤ maxLen
  nil : A = none → c = 0
  at_ : 0 < n → ∃ ad, A = some ad ∧ ∀ j x, L[j]? = some x → w.cell? (ad.add (j * 2)) = some (.string x.1) ∧ w.cell? (ad.add (j * 2 + 1)) = some (.string x.2)
  sz : ∀ x ∈ L, x.1.size ≤ maxLen ∧ x.2.size ≤ maxLen

section
variable {w w' : World} {A : Option Addr} {n c : Nat} {L : List Fd}
theorem SlF.none_ (w : World) : SlF w none 0 0 [] := ⟨rfl, Nat.le_refl _, Nat.zero_le _, fun _ => rfl, fun h => absurd h (by omega), fun _ h => by cases h⟩
theorem SlF.none_eq (h : SlF w none n c L) : n = 0 ∧ c = 0 ∧ L = [] := by
  have h1 := h.nil rfl
  have h2 := h.cap
  have h3 := h.len
  exact ⟨by omega, h1, List.eq_nil_of_length_eq_zero (by omega)⟩
theorem SlF.keep (h : SlF w A n c L) (hk : ∀ a u, w.cell? a = some u → w'.cell? a = some u) : SlF w' A n c L :=
  ⟨h.len, h.cap, h.cm, h.nil, fun hn => by
    obtain ⟨ad, e, hc⟩ := h.at_ hn
    exact ⟨ad, e, fun j x hx => ⟨hk _ _ (hc j x hx).1, hk _ _ (hc j x hx).2⟩⟩, h.sz⟩
theorem SlF.below (h : SlF w A n c L) (hb : Below w.heap.size w w') : SlF w' A n c L := h.keep fun _ _ hu => cell_kept hb hu
theorem SlF.alloc (h : SlF w A n c L) (o : Obj) : SlF (w.alloc o) A n c L := h.keep fun _ _ hu => Lib.cell?_alloc_some o hu
theorem SlF.drew (h : SlF w A n c L) : SlF w.drew A n c L := ⟨h.len, h.cap, h.cm, h.nil, h.at_, h.sz⟩
theorem SlF.le (h : SlF w A n c L) : L.length ≤ maxLen := by have := h.len; have := h.cap; have := h.cm; omega
theorem SlF.cells {ad : Addr} (h : SlF w (some ad) n c L) : ∀ j x, L[j]? = some x → w.cell? (ad.add (j * 2)) = some (.string x.1) ∧ w.cell? (ad.add (j * 2 + 1)) = some (.string x.2) := fun j x hx => by
  have : j < L.length := (List.getElem?_eq_some_iff.1 hx).1
  obtain ⟨ad', e, hc⟩ := h.at_ (by have := h.len; omega)
  cases e
  exact hc j x hx
theorem SlF.news {ad : Addr} (h : SlF w (some ad) n c L) : ∀ j u, (fdC L)[j]? = some u → w.cell? (ad.add j) = some u := fun j u hu => by
  obtain ⟨x, hx, hj⟩ := fdC_of L j u hu
  have hc := h.cells _ x hx
  rcases hj with ⟨e, rfl⟩ | ⟨e, rfl⟩
  · rw [show j / 2 * 2 = j by omega] at hc; exact hc.1
  · rw [show j / 2 * 2 + 1 = j by omega] at hc; exact hc.2

theorem SlF.of_own {base e : Nat} {v : Value} (h : w.ownsRow base e 2 v n (fdC L)) (hz : ∀ x ∈ L, x.1.size ≤ maxLen ∧ x.2.size ≤ maxLen) : ∃ A c, v = .slice A n c ∧ SlF w A n c L := by
  have hl : L.length = n := by have := h.1; rw [fdC_len] at this; omega
  rcases h.2 with ⟨rfl, rfl⟩ | ⟨g, cap, cur, rfl, _, hg, hnc, hcm, hcs, ht⟩
  · obtain rfl : L = [] := List.eq_nil_of_length_eq_zero hl
    exact ⟨_, _, rfl, SlF.none_ w⟩
  · exact ⟨_, _, rfl, hl, hnc, hcm, (fun e => by cases e), (fun _ => ⟨_, rfl, fun j x hx => ⟨h.cells (g := g) rfl _ _ (fdC_at L j x hx).1, h.cells (g := g) rfl _ _ (fdC_at L j x hx).2⟩⟩), hz⟩

theorem SlF.of_trod {H : Type} {enc : TypeId × Value → H} {P : Program} {base : Nat} {held : Bool} {t e : TypeId} {f0 f1 : Field} {d : DataW H} {p : List MemPlace} (ht : P.underlying t = some (.slice e)) (he : P.underlying e = some (.struct #[f0, f1]))
    (ce : P.cellsOf e = 2) (o0 : f0.offset = 0) (o1 : f1.offset = 1) (c0 : P.cellsOf f0.type = 1) (c1 : P.cellsOf f1.type = 1) (i0 : P.underlying f0.type = some .string) (i1 : P.underlying f1.type = some .string)
    (h : DataW.Trod enc P w base (fun _ => true) held t (.slice A n c) d p) : ∃ L, SlF w A n c L := by
  obtain ⟨fuel, hf⟩ := h
  rcases Deep.open_slice_pairs ht he ce o0 o1 c0 c1 hf with ⟨hcs, _⟩ | ⟨a, len, cap, m, n', V0, V1, D0, D1, P0, P1, hcs, _, hl, hm, hmm, _, hx⟩
  · simp [Value.cells] at hcs
    obtain ⟨rfl, rfl, rfl⟩ := hcs
    exact ⟨[], SlF.none_ w⟩
  · simp [Value.cells] at hcs
    obtain ⟨rfl, rfl, rfl⟩ := hcs
    have hmc : n ≤ m := by rw [hmm]; simpa using hl
    have each : ∀ i, i < n → ∃ x : Fd, w.cell? (a.add (i * 2)) = some (.string x.1) ∧ w.cell? (a.add (i * 2 + 1)) = some (.string x.2) ∧ x.1.size ≤ maxLen ∧ x.2.size ≤ maxLen := fun i hi => by
      obtain ⟨h1, h2, h3, h4⟩ := hx i (by omega)
      obtain ⟨k0, e0, _, w0⟩ := DataW.trod_string i0 h3
      obtain ⟨k1, e1, _, w1⟩ := DataW.trod_string i1 h4
      simp only [List.cons.injEq, and_true] at e0 e1
      exact ⟨(k0, k1), by rw [h1, e0], by rw [h2, e1], w0, w1⟩
    obtain ⟨q, hq⟩ := Deep.choose_lt each
    refine ⟨(List.range n).map q, by simp, hl, hm, (fun e => by cases e), fun _ => ⟨a, rfl, fun j x hj => ?_⟩, fun x hx => ?_⟩
    · rw [List.getElem?_map, Option.map_eq_some_iff] at hj
      obtain ⟨i, hi, rfl⟩ := hj
      obtain ⟨h1, h2⟩ := List.getElem?_eq_some_iff.1 hi
      simp only [List.length_range, List.getElem_range] at h1 h2
      subst h2
      exact ⟨(hq j h1).1, (hq j h1).2.1⟩
    · obtain ⟨i, hi, rfl⟩ := List.mem_map.1 hx
      exact (hq i (List.mem_range.1 hi)).2.2
end

/-- The second cell of a field, as a load asks for it. -/
theorem fd_snd {w : World} {ad : Addr} {k : Nat} {v : Value} (h : w.cell? (ad.add (k * 2 + 1)) = some v) : w.cell? { block := (ad.add (k * 2)).block, off := (ad.add (k * 2)).off + 1 } = some v := by
  rw [← Go.Addr.add_add] at h
  rwa [Addr.add_succ'] at h

/-- A block of one field. -/
theorem SlF.one (w : World) (t : TypeId) (x : Fd) (hz : x.1.size ≤ maxLen ∧ x.2.size ≤ maxLen) : SlF (w.alloc (.cells #[.string x.1, .string x.2] t)) (some ⟨w.heap.size, 0, none⟩) 1 1 [x] := by
  refine ⟨rfl, Nat.le_refl _, by decide, (fun e => by cases e), fun _ => ⟨_, rfl, fun j y hy => ?_⟩, fun y hy => ?_⟩
  · rcases j with _ | j
    · simp only [List.getElem?_cons_zero, Option.some.injEq] at hy
      subst hy
      rw [addr_add, addr_add, cell_of_row _ _ _ _ _ _ (heap_alloc_new w _), cell_of_row _ _ _ _ _ _ (heap_alloc_new w _)]
      exact ⟨rfl, rfl⟩
    · simp at hy
  · simp only [List.mem_singleton] at hy
    subst hy
    exact hz

/-- Fields in memory of the call's own, from block 'base' on. -/
def OwnF (w : World) (base e : Nat) (v : Value) (X : List Fd) : Prop := w.ownsRow base e 2 v X.length (fdC X)
theorem OwnF.slf {w : World} {base e : Nat} {v : Value} {X : List Fd} (h : OwnF w base e v X) (hz : ∀ x ∈ X, x.1.size ≤ maxLen ∧ x.2.size ≤ maxLen) : ∃ A c, v = .slice A X.length c ∧ SlF w A X.length c X := SlF.of_own h hz
theorem OwnF.form {w : World} {base e : Nat} {v : Value} {X : List Fd} (h : OwnF w base e v X) : ∃ A c, v = .slice A X.length c := by
  rcases h.2 with ⟨rfl, h0⟩ | ⟨g, cap, cur, rfl, _⟩
  · exact ⟨none, 0, by rw [h0]⟩
  · exact ⟨_, _, rfl⟩
theorem OwnF.nil (w : World) (base e : Nat) : OwnF w base e (.slice none 0 0) [] := World.ownsRow_nil _ _ _ _
theorem OwnF.alloc {w : World} {base e : Nat} {v : Value} {X : List Fd} (h : OwnF w base e v X) (o : Obj) : OwnF (w.alloc o) base e v X := World.ownsRow.alloc h o
theorem OwnF.drew {w : World} {base e : Nat} {v : Value} {X : List Fd} (h : OwnF w base e v X) : OwnF w.drew base e v X := World.ownsRow.drew h
theorem OwnF.below {w w' : World} {base e : Nat} {v : Value} {X : List Fd} (h : OwnF w base e v X) (hb : Below w.heap.size w w') : OwnF w' base e v X := ownsRow_below h hb

theorem OwnF.wide {w : World} {base base' e : Nat} {v : Value} {X : List Fd} (h : OwnF w base e v X) (hb : base' ≤ base) : OwnF w base' e v X := by
  refine ⟨h.1, ?_⟩
  rcases h.2 with h2 | ⟨g, cap, cur, h1, h2, h3⟩
  · exact .inl h2
  · exact .inr ⟨g, cap, cur, h1, by omega, h3⟩

/-- 'append(out, xs...)' on fields: out the call's own, xs any slice, nil or not. -/
theorem wpList_append_slf {P : Program} {ops : Array Oper} {rest : List Oper} {o : Oper} {a : Act} {w : World} {Q : Exit → Act → World → Prop} (hgd : o.guard = none) (s x : Operand) (t : TypeId)
    (ho : o.op = .call { callee := .builtin .append, args := #[s, x], argTypes := #[t, t] }) (base e : Nat) (ht : P.underlying t = some (.slice e))
    (hI : (P.info? e).map (fun i => (i.zero, i.size, i.bytes)) = some (some (.agg #[.string ⟨#[]⟩, .string ⟨#[]⟩]), 2, 32)) (v : Value) (hs : a.eval s = v) (X : List Fd) (hown : OwnF w base e v X)
    (A : Option Addr) (m c : Nat) (hx : a.eval x = .slice A m c) (Y : List Fd) (hY : SlF w A m c Y) (hlen : X.length + Y.length ≤ 1000000000) (hbase : base ≤ w.heap.size) (w0 : World) (hb : Below base w0 w)
    (h : ∀ v' w', Hid (OwnF w' base e v' (X ++ Y)) → Below base w0 w' → w.heap.size ≤ w'.heap.size → wpList P ops Q rest (a.put o.dst v') w') : wpList P ops Q (o :: rest) a w := by
  obtain ⟨i0, hi, hz0, hz1, hz2⟩ := info_parts hI
  rcases A with _ | ad
  · obtain ⟨rfl, rfl, rfl⟩ := hY.none_eq
    refine wpList_append_own_none hgd s x t ho base e i0 2 ht hi v _ _ hs hown hx ?_
    exact h v w (by rw [List.append_nil]; exact hown) hb (Nat.le_refl _)
  · have hl := hY.len
    refine wpList_append_own w hgd s x t ho base e i0 (.agg #[.string ⟨#[]⟩, .string ⟨#[]⟩]) 2 32 ht hi hz0 hz1 hz2 rfl (by decide) v _ _ hs hown ad m c (fdC Y) hx (by rw [fdC_len, hl]) hY.news (fdC_ones _) (by unfold maxLen; omega) (by omega) hbase ?_
    intro v' w' hown' hgrow _
    refine h v' w' ?_ (hb.grown hgrow hbase (fun k hk => (hown.lt k hk).1)) hgrow.size
    show World.ownsRow _ _ _ _ _ _ _
    rw [List.length_append, hl, fdC_append]
    exact hown'

/-! ### A variable that a call leaves as it was -/
theorem zero_then {W w2 : World} {o : Obj} (hb : Below (W.alloc o).heap.size (W.alloc o) w2) : Below W.heap.size W w2 := ((Below.refl _ _).alloc (Nat.le_refl _) o).trans (hb.mono (by simp))
theorem zero_at {W w2 : World} {o : Obj} (hb : Below (W.alloc o).heap.size (W.alloc o) w2) : w2.heap[W.heap.size]? = some o := (hb.block _ (by simp)).trans (heap_alloc_new W o)
theorem zero_still {W w2 : World} {o : Obj} {B : Nat} (hb : Below W.heap.size W w2) (h : W.heap[B]? = some o) : w2.heap[B]? = some o := (hb.block _ (Array.getElem?_eq_some_iff.1 h).1).trans h
theorem zero_two {W : World} {g t : Nat} {c0 c1 : Value} (h : W.heap[g]? = some (.cells #[c0, c1] t (0, 0))) : W.cell? ⟨g, 0, none⟩ = some c0 ∧ W.cell? ⟨g, 1, none⟩ = some c1 :=
  ⟨(cell_of_row _ _ 0 _ _ _ h).trans rfl, (cell_of_row _ _ 1 _ _ _ h).trans rfl⟩
theorem zero_one {W : World} {g t : Nat} {c0 : Value} (h : W.heap[g]? = some (.cells #[c0] t (0, 0))) : W.cell? ⟨g, 0, none⟩ = some c0 := (cell_of_row _ _ 0 _ _ _ h).trans rfl
theorem zero_more {W : World} {g : Nat} {o o' : Obj} (h : W.heap[g]? = some o) : (W.alloc o').heap[g]? = some o := (Below.heap_alloc W o' g (Array.getElem?_eq_some_iff.1 h).1).trans h

end Go.Proofs.YtjkfdjolhmgemaaGreatDoor
end

/-
  Plain facts of a field and its line (layer 9), without items: prpF, lineS, what Parse answers; a variable of two cells.
-/
section
namespace Go.Proofs.YtjkfdjolhmgemaaGreatDoor
open Go.RowKit

/-- May a field be, but for its length? -/
def prpF (x : Fd) : Bool := ((!x.1.toList.isEmpty && allB tokB x.1.data.toList) && allB txtB x.2.data.toList) && ((mkS (trimL x.2.data.toList)).toList == x.2.toList)
def lineS (x : Fd) : ByteArray := x.1 ++ (⟨#[58, 32]⟩ : ByteArray) ++ x.2
def lngF (x : Fd) : Bool := decide (8192 < x.1.size + 2 + x.2.size)
/-! ### Parse -/
def flT (s : ByteArray) : Fd := (cutA s 58, mkS (trimL (cutZ s 58).data.toList))
def flO (s : ByteArray) : Bool := cutOk s 58 && ((!(flT s).1.toList.isEmpty && allB tokB (flT s).1.data.toList) && allB txtB (flT s).2.data.toList)
def flF (s : ByteArray) : Fd := if 8192 < s.size then (⟨#[]⟩, ⟨#[]⟩) else if flO s then flT s else (⟨#[]⟩, ⟨#[]⟩)
def flX (s : ByteArray) : Int := if 8192 < s.size then 4 else if flO s then 0 else 21
end Go.Proofs.YtjkfdjolhmgemaaGreatDoor
end

/-
  Slices of structs of a flag and a text (entity tags): what a slice reads as, nil or not; rows of the call's own, and what is appended to them.
-/
section
namespace Go.Proofs.YtjkfdjolhmgemaaGreatDoor
open Go.RowKit Go.ChangeShapes Go.WideShapes

/-- A tag: weak or not, and its text. -/
abbrev Tg := Bool × ByteArray
def tgV (x : Tg) : Value := .agg #[.bool x.1, .string x.2]
def tgC (L : List Tg) : List Value := L.flatMap fun x => [.bool x.1, .string x.2]
theorem tgC_cons (x : Tg) (L : List Tg) : tgC (x :: L) = .bool x.1 :: .string x.2 :: tgC L := rfl
theorem tgC_append (L M : List Tg) : tgC (L ++ M) = tgC L ++ tgC M := by simp [tgC]
theorem tgC_len : ∀ L : List Tg, (tgC L).length = L.length * 2
  | [] => rfl
  | x :: L => by rw [tgC_cons, List.length_cons, List.length_cons, tgC_len L, List.length_cons]; omega
theorem tgC_at : ∀ (L : List Tg) (j : Nat) (x : Tg), L[j]? = some x → (tgC L)[j * 2]? = some (.bool x.1) ∧ (tgC L)[j * 2 + 1]? = some (.string x.2)
  | [], j, x, h => by simp at h
  | y :: L, 0, x, h => by
    simp only [List.getElem?_cons_zero, Option.some.injEq] at h
    subst h
    exact ⟨rfl, rfl⟩
  | y :: L, j + 1, x, h => by
    rw [List.getElem?_cons_succ] at h
    have := tgC_at L j x h
    rw [tgC_cons, show (j + 1) * 2 = j * 2 + 1 + 1 by omega, show j * 2 + 1 + 1 + 1 = (j * 2 + 1) + 1 + 1 by omega]
    simpa using this
theorem tgC_ones (L : List Tg) : ∀ u ∈ tgC L, u.oneCell' = true := fun u hu => by
  obtain ⟨x, _, hx⟩ := List.mem_flatMap.1 hu
  simp only [List.mem_cons, List.not_mem_nil, or_false] at hx
  rcases hx with rfl | rfl <;> rfl
theorem tgC_of (L : List Tg) (j : Nat) (u : Value) (h : (tgC L)[j]? = some u) : ∃ x, L[j / 2]? = some x ∧ ((j % 2 = 0 ∧ u = .bool x.1) ∨ (j % 2 = 1 ∧ u = .string x.2)) := by
  have hj : j < (tgC L).length := (List.getElem?_eq_some_iff.1 h).1
  rw [tgC_len] at hj
  have hlt : j / 2 < L.length := by omega
  refine ⟨L[j / 2], List.getElem?_eq_getElem hlt, ?_⟩
  have hx := tgC_at L (j / 2) _ (List.getElem?_eq_getElem hlt)
  rcases Nat.mod_two_eq_zero_or_one j with e | e
  · rw [show j / 2 * 2 = j by omega, h] at hx
    exact .inl ⟨e, by simpa using hx.1⟩
  · rw [show j / 2 * 2 + 1 = j by omega, h] at hx
    exact .inr ⟨e, by simpa using hx.2⟩

/-- The slice of n tags at A, of capacity c, reads as L. -/
structure SlT (w : World) (A : Option Addr) (n c : Nat) (L : List Tg) : Prop where
  len : L.length = n
  cap : n ≤ c
  cm : c ≤ maxLen
  nil : A = none → c = 0
  at_ : 0 < n → ∃ ad, A = some ad ∧ ∀ j x, L[j]? = some x → w.cell? (ad.add (j * 2)) = some (.bool x.1) ∧ w.cell? (ad.add (j * 2 + 1)) = some (.string x.2)
  sz : ∀ x ∈ L, x.2.size ≤ maxLen

section
variable {w w' : World} {A : Option Addr} {n c : Nat} {L : List Tg}
theorem SlT.none_ (w : World) : SlT w none 0 0 [] := ⟨rfl, Nat.le_refl _, Nat.zero_le _, fun _ => rfl, fun h => absurd h (by omega), fun _ h => by cases h⟩
theorem SlT.none_eq (h : SlT w none n c L) : n = 0 ∧ c = 0 ∧ L = [] := by
  have h1 := h.nil rfl
  have h2 := h.cap
  have h3 := h.len
  exact ⟨by omega, h1, List.eq_nil_of_length_eq_zero (by omega)⟩
theorem SlT.keep (h : SlT w A n c L) (hk : ∀ a u, w.cell? a = some u → w'.cell? a = some u) : SlT w' A n c L :=
  ⟨h.len, h.cap, h.cm, h.nil, fun hn => by
    obtain ⟨ad, e, hc⟩ := h.at_ hn
    exact ⟨ad, e, fun j x hx => ⟨hk _ _ (hc j x hx).1, hk _ _ (hc j x hx).2⟩⟩, h.sz⟩
theorem SlT.below (h : SlT w A n c L) (hb : Below w.heap.size w w') : SlT w' A n c L := h.keep fun _ _ hu => cell_kept hb hu
theorem SlT.alloc (h : SlT w A n c L) (o : Obj) : SlT (w.alloc o) A n c L := h.keep fun _ _ hu => Lib.cell?_alloc_some o hu
theorem SlT.drew (h : SlT w A n c L) : SlT w.drew A n c L := ⟨h.len, h.cap, h.cm, h.nil, h.at_, h.sz⟩
theorem SlT.le (h : SlT w A n c L) : L.length ≤ maxLen := by have := h.len; have := h.cap; have := h.cm; omega
theorem SlT.cells {ad : Addr} (h : SlT w (some ad) n c L) : ∀ j x, L[j]? = some x → w.cell? (ad.add (j * 2)) = some (.bool x.1) ∧ w.cell? (ad.add (j * 2 + 1)) = some (.string x.2) := fun j x hx => by
  have : j < L.length := (List.getElem?_eq_some_iff.1 hx).1
  obtain ⟨ad', e, hc⟩ := h.at_ (by have := h.len; omega)
  cases e
  exact hc j x hx
theorem SlT.news {ad : Addr} (h : SlT w (some ad) n c L) : ∀ j u, (tgC L)[j]? = some u → w.cell? (ad.add j) = some u := fun j u hu => by
  obtain ⟨x, hx, hj⟩ := tgC_of L j u hu
  have hc := h.cells _ x hx
  rcases hj with ⟨e, rfl⟩ | ⟨e, rfl⟩
  · rw [show j / 2 * 2 = j by omega] at hc; exact hc.1
  · rw [show j / 2 * 2 + 1 = j by omega] at hc; exact hc.2

theorem SlT.of_own {base e : Nat} {v : Value} (h : w.ownsRow base e 2 v n (tgC L)) (hz : ∀ x ∈ L, x.2.size ≤ maxLen) : ∃ A c, v = .slice A n c ∧ SlT w A n c L := by
  have hl : L.length = n := by have := h.1; rw [tgC_len] at this; omega
  rcases h.2 with ⟨rfl, rfl⟩ | ⟨g, cap, cur, rfl, _, hg, hnc, hcm, hcs, ht⟩
  · obtain rfl : L = [] := List.eq_nil_of_length_eq_zero hl
    exact ⟨_, _, rfl, SlT.none_ w⟩
  · exact ⟨_, _, rfl, hl, hnc, hcm, (fun e => by cases e), (fun _ => ⟨_, rfl, fun j x hx => ⟨h.cells (g := g) rfl _ _ (tgC_at L j x hx).1, h.cells (g := g) rfl _ _ (tgC_at L j x hx).2⟩⟩), hz⟩

end

/-- A block of one tag. -/
theorem SlT.one (w : World) (t : TypeId) (x : Tg) (hz : x.2.size ≤ maxLen) : SlT (w.alloc (.cells #[.bool x.1, .string x.2] t)) (some ⟨w.heap.size, 0, none⟩) 1 1 [x] := by
  refine ⟨rfl, Nat.le_refl _, by decide, (fun e => by cases e), fun _ => ⟨_, rfl, fun j y hy => ?_⟩, fun y hy => ?_⟩
  · rcases j with _ | j
    · simp only [List.getElem?_cons_zero, Option.some.injEq] at hy
      subst hy
      rw [addr_add, addr_add, cell_of_row _ _ _ _ _ _ (heap_alloc_new w _), cell_of_row _ _ _ _ _ _ (heap_alloc_new w _)]
      exact ⟨rfl, rfl⟩
    · simp at hy
  · simp only [List.mem_singleton] at hy
    subst hy
    exact hz

/-- Tags in memory of the call's own, from block 'base' on. -/
def OwnT (w : World) (base e : Nat) (v : Value) (X : List Tg) : Prop := w.ownsRow base e 2 v X.length (tgC X)
theorem OwnT.slt {w : World} {base e : Nat} {v : Value} {X : List Tg} (h : OwnT w base e v X) (hz : ∀ x ∈ X, x.2.size ≤ maxLen) : ∃ A c, v = .slice A X.length c ∧ SlT w A X.length c X := SlT.of_own h hz
theorem OwnT.form {w : World} {base e : Nat} {v : Value} {X : List Tg} (h : OwnT w base e v X) : ∃ A c, v = .slice A X.length c := by
  rcases h.2 with ⟨rfl, h0⟩ | ⟨g, cap, cur, rfl, _⟩
  · exact ⟨none, 0, by rw [h0]⟩
  · exact ⟨_, _, rfl⟩
theorem OwnT.nil (w : World) (base e : Nat) : OwnT w base e (.slice none 0 0) [] := World.ownsRow_nil _ _ _ _
theorem OwnT.alloc {w : World} {base e : Nat} {v : Value} {X : List Tg} (h : OwnT w base e v X) (o : Obj) : OwnT (w.alloc o) base e v X := World.ownsRow.alloc h o
theorem OwnT.drew {w : World} {base e : Nat} {v : Value} {X : List Tg} (h : OwnT w base e v X) : OwnT w.drew base e v X := World.ownsRow.drew h
theorem OwnT.below {w w' : World} {base e : Nat} {v : Value} {X : List Tg} (h : OwnT w base e v X) (hb : Below w.heap.size w w') : OwnT w' base e v X := ownsRow_below h hb

theorem OwnT.wide {w : World} {base base' e : Nat} {v : Value} {X : List Tg} (h : OwnT w base e v X) (hb : base' ≤ base) : OwnT w base' e v X := by
  refine ⟨h.1, ?_⟩
  rcases h.2 with h2 | ⟨g, cap, cur, h1, h2, h3⟩
  · exact .inl h2
  · exact .inr ⟨g, cap, cur, h1, by omega, h3⟩

/-- 'append(out, xs...)' on tags: out the call's own, xs any slice, nil or not. -/
theorem wpList_append_slt {P : Program} {ops : Array Oper} {rest : List Oper} {o : Oper} {a : Act} {w : World} {Q : Exit → Act → World → Prop} (hgd : o.guard = none) (s x : Operand) (t : TypeId)
    (ho : o.op = .call { callee := .builtin .append, args := #[s, x], argTypes := #[t, t] }) (base e : Nat) (ht : P.underlying t = some (.slice e))
    (hI : (P.info? e).map (fun i => (i.zero, i.size, i.bytes)) = some (some (.agg #[.bool false, .string ⟨#[]⟩]), 2, 24)) (v : Value) (hs : a.eval s = v) (X : List Tg) (hown : OwnT w base e v X)
    (A : Option Addr) (m c : Nat) (hx : a.eval x = .slice A m c) (Y : List Tg) (hY : SlT w A m c Y) (hlen : X.length + Y.length ≤ 1000000000) (hbase : base ≤ w.heap.size) (w0 : World) (hb : Below base w0 w)
    (h : ∀ v' w', Hid (OwnT w' base e v' (X ++ Y)) → Below base w0 w' → w.heap.size ≤ w'.heap.size → wpList P ops Q rest (a.put o.dst v') w') : wpList P ops Q (o :: rest) a w := by
  obtain ⟨i0, hi, hz0, hz1, hz2⟩ := info_parts hI
  rcases A with _ | ad
  · obtain ⟨rfl, rfl, rfl⟩ := hY.none_eq
    refine wpList_append_own_none hgd s x t ho base e i0 2 ht hi v _ _ hs hown hx ?_
    exact h v w (by rw [List.append_nil]; exact hown) hb (Nat.le_refl _)
  · have hl := hY.len
    refine wpList_append_own w hgd s x t ho base e i0 (.agg #[.bool false, .string ⟨#[]⟩]) 2 24 ht hi hz0 hz1 hz2 rfl (by decide) v _ _ hs hown ad m c (tgC Y) hx (by rw [tgC_len, hl]) hY.news (tgC_ones _) (by unfold maxLen; omega) (by omega) hbase ?_
    intro v' w' hown' hgrow _
    refine h v' w' ?_ (hb.grown hgrow hbase (fun k hk => (hown.lt k hk).1)) hgrow.size
    show World.ownsRow _ _ _ _ _ _ _
    rw [List.length_append, hl, tgC_append]
    exact hown'


end Go.Proofs.YtjkfdjolhmgemaaGreatDoor
end

/-
  Plain functions of layer 14, without the program: tags, what a text's tag is, whether two are alike.
-/
section
namespace Go.Proofs.YtjkfdjolhmgemaaGreatDoor
open Go.RowKit

/-- P14.1: a byte that may stand in a tag. -/
def innB (c : Int) : Bool := c == 33 || (decide (35 ≤ c) && !(c == 127))
def wkB (s : ByteArray) : Bool := decide (2 ≤ s.size) && (s.extract 0 2).toList == [87, 47]
def offW (s : ByteArray) : ByteArray := if wkB s then s.extract 2 s.size else s
def frmB (r : ByteArray) : Bool := if h : 2 ≤ r.size then r[0].toNat == 34 && r[r.size - 1].toNat == 34 else false
def midL (r : ByteArray) : ByteArray := r.extract 1 (r.size - 1)
def tgB (s : ByteArray) : Bool := frmB (offW s) && allB innB (midL (offW s)).data.toList
def tgO (s : ByteArray) : Tg := if tgB s then (wkB s, midL (offW s)) else (false, ⟨#[]⟩)
def tgS (t : Tg) : ByteArray := (if t.1 then (⟨#[87, 47, 34]⟩ : ByteArray) else ⟨#[34]⟩) ++ t.2 ++ (⟨#[34]⟩ : ByteArray)
def wekB (a b : Tg) : Bool := a.2.toList == b.2.toList
def strB (a b : Tg) : Bool := !a.1 && !b.1 && a.2.toList == b.2.toList
/-- P14.3: what a part of a list adds. -/
def addT (part : List UInt8) (out : List Tg) : Option (List Tg) := if trimL part = [] then some out else if tgB (mkS (trimL part)) then some (out ++ [tgO (mkS (trimL part))]) else none
def lsR (q : Bool) (part : List UInt8) (out : List Tg) : List UInt8 → Option (List Tg)
  | [] => addT part out
  | c :: r => if c ≠ 44 ∨ q = true then lsR (if c = 34 then !q else q) (part ++ [c]) out r else match addT part out with
    | none => none
    | some o => lsR q [] o r
def lsA (s : ByteArray) : Bool := (mkS (trimL s.data.toList)).toList == [42]
def lsP (s : ByteArray) : List Tg := (lsR false [] [] s.data.toList).getD []
def lsL (s : ByteArray) : List Tg := if lsA s then [] else lsP s
def lsE (s : ByteArray) : Int := if lsA s then 0 else if (lsP s).isEmpty then 5 else 0
def mtB (s : ByteArray) (t : Tg) : Bool := lsA s || (lsL s).any fun x => wekB x t

end Go.Proofs.YtjkfdjolhmgemaaGreatDoor
end
