/-
  Texts that the laws of this seat lean on, one behind the other.
-/
import Derived.Test.YtjkfdjolhmgemaaGreatDoorMrgF
import Derived.Deep.Slices
import Derived.Test.YtjkfdjolhmgemaaGreatDoorMrgB
import Derived.Test.YtjkfdjolhmgemaaGreatDoorMrgA
import Derived.Laws.OwnMore
import Derived.Laws.CopyRow
import Derived.Laws.Tables
import Derived.Deep.OwnRows
set_option linter.unusedSimpArgs false
set_option linter.unusedVariables false
/-
  Slices of structs of a text, a flag and a text (picks): what a slice reads as, nil or not; rows of the call's own, and what is appended to them.
-/
section
namespace Go.Proofs.YtjkfdjolhmgemaaGreatDoor
open Go.RowKit Go.ChangeShapes Go.WideShapes

/-- A pick: a name, whether there is such a field, its value. -/
structure Pk where
  n : ByteArray
  h : Bool
  v : ByteArray
def pkV (x : Pk) : Value := .agg #[.string x.n, .bool x.h, .string x.v]
def pkC (L : List Pk) : List Value := L.flatMap fun x => [.string x.n, .bool x.h, .string x.v]
theorem pkC_cons (x : Pk) (L : List Pk) : pkC (x :: L) = .string x.n :: .bool x.h :: .string x.v :: pkC L := rfl
theorem pkC_append (L M : List Pk) : pkC (L ++ M) = pkC L ++ pkC M := by simp [pkC]
theorem pkC_len : ∀ L : List Pk, (pkC L).length = L.length * 3
  | [] => rfl
  | x :: L => by rw [pkC_cons, List.length_cons, List.length_cons, List.length_cons, pkC_len L, List.length_cons]; omega
theorem pkC_at : ∀ (L : List Pk) (j : Nat) (x : Pk), L[j]? = some x → (pkC L)[j * 3]? = some (.string x.n) ∧ (pkC L)[j * 3 + 1]? = some (.bool x.h) ∧ (pkC L)[j * 3 + 2]? = some (.string x.v)
  | [], j, x, h => by simp at h
  | y :: L, 0, x, h => by
    simp only [List.getElem?_cons_zero, Option.some.injEq] at h
    subst h
    exact ⟨rfl, rfl, rfl⟩
  | y :: L, j + 1, x, h => by
    rw [List.getElem?_cons_succ] at h
    have := pkC_at L j x h
    rw [pkC_cons, show (j + 1) * 3 = j * 3 + 1 + 1 + 1 by omega, show j * 3 + 1 + 1 + 1 + 1 = (j * 3 + 1) + 1 + 1 + 1 by omega, show j * 3 + 1 + 1 + 1 + 2 = (j * 3 + 2) + 1 + 1 + 1 by omega]
    simpa using this
theorem pkC_ones (L : List Pk) : ∀ u ∈ pkC L, u.oneCell' = true := fun u hu => by
  obtain ⟨x, _, hx⟩ := List.mem_flatMap.1 hu
  simp only [List.mem_cons, List.not_mem_nil, or_false] at hx
  rcases hx with rfl | rfl | rfl <;> rfl
theorem pkC_of (L : List Pk) (j : Nat) (u : Value) (h : (pkC L)[j]? = some u) : ∃ x, L[j / 3]? = some x ∧ ((j % 3 = 0 ∧ u = .string x.n) ∨ (j % 3 = 1 ∧ u = .bool x.h) ∨ (j % 3 = 2 ∧ u = .string x.v)) := by
  have hj : j < (pkC L).length := (List.getElem?_eq_some_iff.1 h).1
  rw [pkC_len] at hj
  have hlt : j / 3 < L.length := by omega
  refine ⟨L[j / 3], List.getElem?_eq_getElem hlt, ?_⟩
  have hx := pkC_at L (j / 3) _ (List.getElem?_eq_getElem hlt)
  have hm : j % 3 = 0 ∨ j % 3 = 1 ∨ j % 3 = 2 := by omega
  rcases hm with e | e | e
  · rw [show j / 3 * 3 = j by omega, h] at hx
    exact .inl ⟨e, by simpa using hx.1⟩
  · rw [show j / 3 * 3 + 1 = j by omega, h] at hx
    exact .inr (.inl ⟨e, by simpa using hx.2.1⟩)
  · rw [show j / 3 * 3 + 2 = j by omega, h] at hx
    exact .inr (.inr ⟨e, by simpa using hx.2.2⟩)

/-- The slice of n picks at A, of capacity c, reads as L. -/
structure SlK (w : World) (A : Option Addr) (n c : Nat) (L : List Pk) : Prop where
  len : L.length = n
  cap : n ≤ c
  cm : c ≤ maxLen
  nil : A = none → c = 0
  at_ : 0 < n → ∃ ad, A = some ad ∧ ∀ j x, L[j]? = some x → w.cell? (ad.add (j * 3)) = some (.string x.n) ∧ w.cell? (ad.add (j * 3 + 1)) = some (.bool x.h) ∧ w.cell? (ad.add (j * 3 + 2)) = some (.string x.v)
  sz : ∀ x ∈ L, x.n.size ≤ maxLen ∧ x.v.size ≤ maxLen

section
variable {w w' : World} {A : Option Addr} {n c : Nat} {L : List Pk}
theorem SlK.none_ (w : World) : SlK w none 0 0 [] := ⟨rfl, Nat.le_refl _, Nat.zero_le _, fun _ => rfl, fun h => absurd h (by omega), fun _ h => by cases h⟩
theorem SlK.none_eq (h : SlK w none n c L) : n = 0 ∧ c = 0 ∧ L = [] := by
  have h1 := h.nil rfl
  have h2 := h.cap
  have h3 := h.len
  exact ⟨by omega, h1, List.eq_nil_of_length_eq_zero (by omega)⟩
theorem SlK.keep (h : SlK w A n c L) (hk : ∀ a u, w.cell? a = some u → w'.cell? a = some u) : SlK w' A n c L :=
  ⟨h.len, h.cap, h.cm, h.nil, fun hn => by
    obtain ⟨ad, e, hc⟩ := h.at_ hn
    exact ⟨ad, e, fun j x hx => ⟨hk _ _ (hc j x hx).1, hk _ _ (hc j x hx).2.1, hk _ _ (hc j x hx).2.2⟩⟩, h.sz⟩
theorem SlK.below (h : SlK w A n c L) (hb : Below w.heap.size w w') : SlK w' A n c L := h.keep fun _ _ hu => cell_kept hb hu
theorem SlK.alloc (h : SlK w A n c L) (o : Obj) : SlK (w.alloc o) A n c L := h.keep fun _ _ hu => Lib.cell?_alloc_some o hu
theorem SlK.drew (h : SlK w A n c L) : SlK w.drew A n c L := ⟨h.len, h.cap, h.cm, h.nil, h.at_, h.sz⟩
theorem SlK.le (h : SlK w A n c L) : L.length ≤ maxLen := by have := h.len; have := h.cap; have := h.cm; omega
theorem SlK.cells {ad : Addr} (h : SlK w (some ad) n c L) : ∀ j x, L[j]? = some x → w.cell? (ad.add (j * 3)) = some (.string x.n) ∧ w.cell? (ad.add (j * 3 + 1)) = some (.bool x.h) ∧ w.cell? (ad.add (j * 3 + 2)) = some (.string x.v) := fun j x hx => by
  have : j < L.length := (List.getElem?_eq_some_iff.1 hx).1
  obtain ⟨ad', e, hc⟩ := h.at_ (by have := h.len; omega)
  cases e
  exact hc j x hx
theorem SlK.news {ad : Addr} (h : SlK w (some ad) n c L) : ∀ j u, (pkC L)[j]? = some u → w.cell? (ad.add j) = some u := fun j u hu => by
  obtain ⟨x, hx, hj⟩ := pkC_of L j u hu
  have hc := h.cells _ x hx
  rcases hj with ⟨e, rfl⟩ | ⟨e, rfl⟩ | ⟨e, rfl⟩
  · rw [show j / 3 * 3 = j by omega] at hc; exact hc.1
  · rw [show j / 3 * 3 + 1 = j by omega] at hc; exact hc.2.1
  · rw [show j / 3 * 3 + 2 = j by omega] at hc; exact hc.2.2

theorem SlK.of_own {base e : Nat} {v : Value} (h : w.ownsRow base e 3 v n (pkC L)) (hz : ∀ x ∈ L, x.n.size ≤ maxLen ∧ x.v.size ≤ maxLen) : ∃ A c, v = .slice A n c ∧ SlK w A n c L := by
  have hl : L.length = n := by have := h.1; rw [pkC_len] at this; omega
  rcases h.2 with ⟨rfl, rfl⟩ | ⟨g, cap, cur, rfl, _, hg, hnc, hcm, hcs, ht⟩
  · obtain rfl : L = [] := List.eq_nil_of_length_eq_zero hl
    exact ⟨_, _, rfl, SlK.none_ w⟩
  · exact ⟨_, _, rfl, hl, hnc, hcm, (fun e => by cases e), (fun _ => ⟨_, rfl, fun j x hx => ⟨h.cells (g := g) rfl _ _ (pkC_at L j x hx).1, h.cells (g := g) rfl _ _ (pkC_at L j x hx).2.1, h.cells (g := g) rfl _ _ (pkC_at L j x hx).2.2⟩⟩), hz⟩

end

/-- A slice of picks that comes in. -/
theorem SlK.of_trod {H : Type} {enc : TypeId × Value → H} {P : Program} {w : World} {base : Nat} {held : Bool} {t e : TypeId} {f0 f1 f2 : Field} {d : DataW H} {p : List MemPlace} {A : Option Addr} {n c : Nat} (ht : P.underlying t = some (.slice e)) (he : P.underlying e = some (.struct #[f0, f1, f2]))
    (ce : P.cellsOf e = 3) (o0 : f0.offset = 0) (o1 : f1.offset = 1) (o2 : f2.offset = 2) (c0 : P.cellsOf f0.type = 1) (c1 : P.cellsOf f1.type = 1) (c2 : P.cellsOf f2.type = 1) (i0 : P.underlying f0.type = some .string) (i1 : P.underlying f1.type = some .bool) (i2 : P.underlying f2.type = some .string)
    (h : DataW.Trod enc P w base (fun _ => true) held t (.slice A n c) d p) : ∃ L, SlK w A n c L := by
  obtain ⟨fuel, hf⟩ := h
  rcases Deep.open_slice ht hf with ⟨hcs, _⟩ | ⟨a, len, cap, m, n', D, Pl, hcs, _, hl, hm, hmm, _, hx⟩
  · simp [Value.cells] at hcs
    obtain ⟨rfl, rfl, rfl⟩ := hcs
    exact ⟨[], SlK.none_ w⟩
  · simp [Value.cells] at hcs
    obtain ⟨rfl, rfl, rfl⟩ := hcs
    have hmc : n ≤ m := by rw [hmm]; simpa using hl
    have each : ∀ i, i < n → ∃ x : Pk, w.cell? (a.add (i * 3)) = some (.string x.n) ∧ w.cell? (a.add (i * 3 + 1)) = some (.bool x.h) ∧ w.cell? (a.add (i * 3 + 2)) = some (.string x.v) ∧ x.n.size ≤ maxLen ∧ x.v.size ≤ maxLen := fun i hi => by
      obtain ⟨cs', h1, h2⟩ := hx i (by omega)
      rw [ce] at h1
      obtain ⟨_, hlen, hcell⟩ := World.cells?_some h1
      obtain ⟨xs, k, hk, hxy, _, hxl, hg⟩ := DataW.trod_struct he h2
      match xs, hxl, cs', hlen with
      | [y0, y1, y2], _, [v0, v1, v2], _ =>
        have g0 := hg 0 f0 rfl
        have g1 := hg 1 f1 rfl
        have g2 := hg 2 f2 rfl
        simp [o0, o1, o2, c0, c1, c2] at g0 g1 g2
        have e0 := hcell 0 (by omega)
        have e1 := hcell 1 (by omega)
        have e2 := hcell 2 (by omega)
        rw [Go.Addr.add_add] at e0 e1 e2
        obtain ⟨k0, q0, _, w0⟩ := DataW.trod_string i0 g0
        obtain ⟨k1, q1, _⟩ := DataW.trod_bool i1 g1
        obtain ⟨k2, q2, _, w2⟩ := DataW.trod_string i2 g2
        simp only [List.cons.injEq, and_true] at q0 q1 q2
        subst q0 q1 q2
        exact ⟨⟨k0, k1, k2⟩, by simpa using e0, by simpa using e1, by simpa using e2, w0, w2⟩
    have : Inhabited Pk := ⟨⟨⟨#[]⟩, false, ⟨#[]⟩⟩⟩
    obtain ⟨q, hq⟩ := Deep.choose_lt each
    refine ⟨(List.range n).map q, by simp, hl, hm, (fun e => by cases e), fun _ => ⟨a, rfl, fun j x hj => ?_⟩, fun x hx => ?_⟩
    · rw [List.getElem?_map, Option.map_eq_some_iff] at hj
      obtain ⟨i, hi, rfl⟩ := hj
      obtain ⟨h1, h2⟩ := List.getElem?_eq_some_iff.1 hi
      simp only [List.length_range, List.getElem_range] at h1 h2
      subst h2
      exact ⟨(hq j h1).1, (hq j h1).2.1, (hq j h1).2.2.1⟩
    · obtain ⟨i, hi, rfl⟩ := List.mem_map.1 hx
      exact (hq i (List.mem_range.1 hi)).2.2.2

/-- A block of one pick. -/
theorem SlK.one (w : World) (t : TypeId) (x : Pk) (hz : x.n.size ≤ maxLen ∧ x.v.size ≤ maxLen) : SlK (w.alloc (.cells #[.string x.n, .bool x.h, .string x.v] t)) (some ⟨w.heap.size, 0, none⟩) 1 1 [x] := by
  refine ⟨rfl, Nat.le_refl _, by decide, (fun e => by cases e), fun _ => ⟨_, rfl, fun j y hy => ?_⟩, fun y hy => ?_⟩
  · rcases j with _ | j
    · simp only [List.getElem?_cons_zero, Option.some.injEq] at hy
      subst hy
      rw [addr_add, addr_add, addr_add, cell_of_row _ _ _ _ _ _ (heap_alloc_new w _), cell_of_row _ _ _ _ _ _ (heap_alloc_new w _), cell_of_row _ _ _ _ _ _ (heap_alloc_new w _)]
      exact ⟨rfl, rfl, rfl⟩
    · simp at hy
  · simp only [List.mem_singleton] at hy
    subst hy
    exact hz

/-- Picks in memory of the call's own, from block 'base' on. -/
def OwnK (w : World) (base e : Nat) (v : Value) (X : List Pk) : Prop := w.ownsRow base e 3 v X.length (pkC X)
theorem OwnK.slk {w : World} {base e : Nat} {v : Value} {X : List Pk} (h : OwnK w base e v X) (hz : ∀ x ∈ X, x.n.size ≤ maxLen ∧ x.v.size ≤ maxLen) : ∃ A c, v = .slice A X.length c ∧ SlK w A X.length c X := SlK.of_own h hz
theorem OwnK.form {w : World} {base e : Nat} {v : Value} {X : List Pk} (h : OwnK w base e v X) : ∃ A c, v = .slice A X.length c := by
  rcases h.2 with ⟨rfl, h0⟩ | ⟨g, cap, cur, rfl, _⟩
  · exact ⟨none, 0, by rw [h0]⟩
  · exact ⟨_, _, rfl⟩
theorem OwnK.nil (w : World) (base e : Nat) : OwnK w base e (.slice none 0 0) [] := World.ownsRow_nil _ _ _ _
theorem OwnK.alloc {w : World} {base e : Nat} {v : Value} {X : List Pk} (h : OwnK w base e v X) (o : Obj) : OwnK (w.alloc o) base e v X := World.ownsRow.alloc h o
theorem OwnK.drew {w : World} {base e : Nat} {v : Value} {X : List Pk} (h : OwnK w base e v X) : OwnK w.drew base e v X := World.ownsRow.drew h
theorem OwnK.below {w w' : World} {base e : Nat} {v : Value} {X : List Pk} (h : OwnK w base e v X) (hb : Below w.heap.size w w') : OwnK w' base e v X := ownsRow_below h hb
theorem OwnK.wide {w : World} {base base' e : Nat} {v : Value} {X : List Pk} (h : OwnK w base e v X) (hb : base' ≤ base) : OwnK w base' e v X := by
  refine ⟨h.1, ?_⟩
  rcases h.2 with h2 | ⟨g, cap, cur, h1, h2, h3⟩
  · exact .inl h2
  · exact .inr ⟨g, cap, cur, h1, by omega, h3⟩

/-- 'append(out, xs...)' on picks: out the call's own, xs any slice, nil or not. -/
theorem wpList_append_slk {P : Program} {ops : Array Oper} {rest : List Oper} {o : Oper} {a : Act} {w : World} {Q : Exit → Act → World → Prop} (hgd : o.guard = none) (s x : Operand) (t : TypeId)
    (ho : o.op = .call { callee := .builtin .append, args := #[s, x], argTypes := #[t, t] }) (base e : Nat) (ht : P.underlying t = some (.slice e))
    (hI : (P.info? e).map (fun i => (i.zero, i.size, i.bytes)) = some (some (.agg #[.string ⟨#[]⟩, .bool false, .string ⟨#[]⟩]), 3, 40)) (v : Value) (hs : a.eval s = v) (X : List Pk) (hown : OwnK w base e v X)
    (A : Option Addr) (m c : Nat) (hx : a.eval x = .slice A m c) (Y : List Pk) (hY : SlK w A m c Y) (hlen : X.length + Y.length ≤ 100000000) (hbase : base ≤ w.heap.size) (w0 : World) (hb : Below base w0 w)
    (h : ∀ v' w', Hid (OwnK w' base e v' (X ++ Y)) → Below base w0 w' → w.heap.size ≤ w'.heap.size → wpList P ops Q rest (a.put o.dst v') w') : wpList P ops Q (o :: rest) a w := by
  obtain ⟨i0, hi, hz0, hz1, hz2⟩ := info_parts hI
  rcases A with _ | ad
  · obtain ⟨rfl, rfl, rfl⟩ := hY.none_eq
    refine wpList_append_own_none hgd s x t ho base e i0 3 ht hi v _ _ hs hown hx ?_
    exact h v w (by rw [List.append_nil]; exact hown) hb (Nat.le_refl _)
  · have hl := hY.len
    refine wpList_append_own w hgd s x t ho base e i0 (.agg #[.string ⟨#[]⟩, .bool false, .string ⟨#[]⟩]) 3 40 ht hi hz0 hz1 hz2 rfl (by decide) v _ _ hs hown ad m c (pkC Y) hx (by rw [pkC_len, hl]) hY.news (pkC_ones _) (by unfold maxLen; omega) (by omega) hbase ?_
    intro v' w' hown' hgrow _
    refine h v' w' ?_ (hb.grown hgrow hbase (fun k hk => (hown.lt k hk).1)) hgrow.size
    show World.ownsRow _ _ _ _ _ _ _
    rw [List.length_append, hl, pkC_append]
    exact hown'

end Go.Proofs.YtjkfdjolhmgemaaGreatDoor
end

/-
  Plain functions of layer 11, without the program: lines, sizes, chunks.
-/
section
namespace Go.Proofs.YtjkfdjolhmgemaaGreatDoor
open Go.RowKit

/-- The first line, and what stands behind its end. -/
def lineL : List UInt8 → Option (List UInt8 × List UInt8)
  | [] => none
  | [_] => none
  | c :: d :: r => if c = 13 ∧ d = 10 then some ([], r) else (lineL (d :: r)).map fun p => (c :: p.1, p.2)
/-- The place of the first line's end from place i on, or -1. -/
def endV (s : ByteArray) (i : Nat) : Int := match lineL (s.data.toList.drop i) with | some p => (i : Int) + p.1.length | none => -1
/-- A chunk's line: the size's digits, its number, its error. -/
def szL (s : ByteArray) : List UInt8 := rdw (cutA s 59).data.toList
def szV (s : ByteArray) : Int := numN 16 15 1152921504606846976 (szL s)
def szB (s : ByteArray) : Bool := (numE 16 15 1152921504606846976 (szL s) == 0) && (!cutOk s 59 || allB txtB (cutZ s 59).data.toList)
def szE (s : ByteArray) : Int := if szB s then (if 65536 < szV s then 4 else 0) else 25
def szN (s : ByteArray) : Int := if szE s = 0 then szV s else 0
/-- The trailer: error, and how many bytes it takes. -/
def trl : Nat → Nat → List UInt8 → Int × List UInt8
  | 0, _, l => (25, l)
  | m + 1, k, l => match lineL l with
    | none => (25, l)
    | some (ln, r) => if ln = [] then (0, r) else if flX (mkS ln) ≠ 0 then (25, l) else if 64 ≤ k then (4, l) else trl m (k + 1) r
/-- Chunks: error, body, what stands behind. -/
def dcd : Nat → List UInt8 → List UInt8 → Int × List UInt8 × List UInt8
  | 0, _, l => (25, [], l)
  | m + 1, b, l => match lineL l with
    | none => (25, [], l)
    | some (ln, r) =>
      if szE (mkS ln) ≠ 0 then (szE (mkS ln), [], l)
      else if szN (mkS ln) = 0 then ((trl (r.length + 1) 0 r).1, (if (trl (r.length + 1) 0 r).1 = 0 then b else []), (trl (r.length + 1) 0 r).2)
      else if 65536 < (b.length : Int) + szN (mkS ln) then (4, [], l)
      else if r.length < (szN (mkS ln)).toNat + 2 ∨ r[(szN (mkS ln)).toNat]? ≠ some 13 ∨ r[(szN (mkS ln)).toNat + 1]? ≠ some 10 then (25, [], l)
      else dcd m (b ++ r.take (szN (mkS ln)).toNat) (r.drop ((szN (mkS ln)).toNat + 2))

def decD (s : ByteArray) : Int × List UInt8 × List UInt8 := dcd (s.size + 1) [] s.data.toList
def decE (s : ByteArray) : Int := (decD s).1
def decB (s : ByteArray) : ByteArray := if (decD s).1 = 0 then mkS (decD s).2.1 else ⟨#[]⟩
def decN (s : ByteArray) : Int := if (decD s).1 = 0 then (s.size : Int) - (decD s).2.2.length else 0
end Go.Proofs.YtjkfdjolhmgemaaGreatDoor
end

/-
  Rows that 'make' has laid whole and that are stored into, element by element: what such a row holds, a store of an element (of one cell or of many), what the slice on it reads as.
-/
section
namespace Go.Proofs.YtjkfdjolhmgemaaGreatDoor
open Go.RowKit

/-- Block g is a row of elements, each by its cells. -/
def RowE (w : World) (g e : Nat) (L : List (List Value)) : Prop := w.heap[g]? = some (.cells L.flatten.toArray e (0, 0))

theorem flat_len {m : Nat} : ∀ {L : List (List Value)}, (∀ l ∈ L, l.length = m) → L.flatten.length = L.length * m
  | [], _ => by simp
  | l :: L, h => by
    rw [List.flatten_cons, List.length_append, h l (List.mem_cons_self ..), flat_len (fun x hx => h x (List.mem_cons_of_mem _ hx)), List.length_cons, Nat.add_mul, Nat.one_mul, Nat.add_comm]
theorem flat_take {m : Nat} : ∀ {L : List (List Value)} (k : Nat), (∀ l ∈ L, l.length = m) → L.flatten.take (k * m) = (L.take k).flatten
  | [], k, _ => by simp
  | l :: L, 0, _ => by simp
  | l :: L, k + 1, h => by
    have hl := h l (List.mem_cons_self ..)
    rw [List.flatten_cons, List.take_append, hl, List.take_of_length_le (by rw [hl, Nat.add_mul]; omega), show (k + 1) * m - m = k * m by rw [Nat.add_mul]; omega, flat_take k (fun x hx => h x (List.mem_cons_of_mem _ hx)), List.take_succ_cons, List.flatten_cons]
theorem flat_drop {m : Nat} : ∀ {L : List (List Value)} (k : Nat), (∀ l ∈ L, l.length = m) → L.flatten.drop (k * m) = (L.drop k).flatten
  | [], k, _ => by simp
  | l :: L, 0, _ => by simp
  | l :: L, k + 1, h => by
    have hl := h l (List.mem_cons_self ..)
    rw [List.flatten_cons, List.drop_append, hl, List.drop_of_length_le (by rw [hl, Nat.add_mul]; omega), List.nil_append, show (k + 1) * m - m = k * m by rw [Nat.add_mul]; omega, flat_drop k (fun x hx => h x (List.mem_cons_of_mem _ hx)), List.drop_succ_cons]
theorem flat_set {m : Nat} {L : List (List Value)} {k : Nat} {vs : List Value} (h : ∀ l ∈ L, l.length = m) (hv : vs.length = m) (hk : k < L.length) :
    L.flatten.take (k * m) ++ vs ++ L.flatten.drop (k * m + vs.length) = (L.set k vs).flatten := by
  rw [hv, show k * m + m = (k + 1) * m by rw [Nat.add_mul]; omega, flat_take k h, flat_drop (k + 1) h, List.set_eq_take_append_cons_drop, if_pos hk, List.flatten_append, List.flatten_cons, List.append_assoc]

theorem made_flat (a : List Value) (n : Nat) (h : 0 < a.length) : (madeCells a.toArray (n * a.length)).toList = (List.replicate n a).flatten := by
  refine List.ext_getElem? fun i => ?_
  have hlen : (List.replicate n a).flatten.length = n * a.length := by
    rw [flat_len (m := a.length) (fun l hl => by rw [(List.mem_replicate.1 hl).2]), List.length_replicate]
  by_cases hi : i < n * a.length
  · have h1 : (madeCells a.toArray (n * a.length)).toList[i]? = some (a[i % a.length]'(Nat.mod_lt _ h)) := by
      unfold madeCells
      rw [Array.getElem?_toList, Array.getElem?_map, Array.getElem?_range, if_pos hi]
      simp [Nat.mod_lt i h]
    rw [h1]
    have hq : i / a.length < n := Nat.div_lt_of_lt_mul (by rw [Nat.mul_comm]; exact hi)
    have h2 : (List.replicate n a).flatten.drop (i / a.length * a.length) = (List.replicate (n - i / a.length) a).flatten := by
      rw [flat_drop (m := a.length) _ (fun l hl => by rw [(List.mem_replicate.1 hl).2]), List.drop_replicate]
    have h3 : (List.replicate n a).flatten[i]? = ((List.replicate n a).flatten.drop (i / a.length * a.length))[i % a.length]? := by
      rw [List.getElem?_drop]
      congr 1
      have := Nat.div_add_mod i a.length
      rw [Nat.mul_comm] at this
      omega
    rw [h3, h2]
    obtain ⟨r, hr⟩ : ∃ r, n - i / a.length = r + 1 := ⟨n - i / a.length - 1, by omega⟩
    rw [hr, List.replicate_succ, List.flatten_cons, List.getElem?_append_left (Nat.mod_lt i h), List.getElem?_eq_getElem (Nat.mod_lt i h)]
  · rw [List.getElem?_eq_none (by rw [Array.length_toList, size_madeCells]; omega), List.getElem?_eq_none (by omega)]

/-- 'make([]T, n)'. -/
theorem run_makeE {P : Program} (w : World) (t e : TypeId) (z : Value) (a : List Value) (bytes n : Nat) (ht : P.underlying t = some (.slice e)) (hI : (P.info? e).map (fun i => (i.zero, i.size, i.bytes)) = some (some z, a.length, bytes)) (hz : z.cells = a.toArray) (ha : 0 < a.length)
    (hn : bytes * n ≤ 281474976710656) (hm : n ≤ maxLen) :
    ∃ w', (Instr.makeSlice t (.int .i64 (n : Int)) (.int .i64 (n : Int))).run P w = .ok (.slice (some ⟨w.heap.size, 0, none⟩) n n) w' ∧ RowE w' w.heap.size e (List.replicate n a) ∧ Below w.heap.size w w' := by
  obtain ⟨i0, hi, hz0, hz1, hz2⟩ := info_parts hI
  obtain ⟨w', h1, h2, h3⟩ := run_make_full (P := P) w w.heap.size t e i0 z a.length ht hi hz0 hz1 .i64 .i64 n (by rw [hz2]; exact hn) hm (Nat.le_refl _)
  refine ⟨w', h1, ?_, (Below.refl _ _).grown h3 (Nat.le_refl _) (fun k hk => by cases hk)⟩
  rcases h2.2 with ⟨q, _⟩ | ⟨g, cap, cur, q, _, hg, hnc, hcm, hcs, htk⟩
  · cases q
  · simp only [Value.slice.injEq, Option.some.injEq, Addr.mk.injEq, and_true, true_and] at q
    obtain ⟨rfl, rfl⟩ := q
    show w'.heap[_]? = _
    rw [hg, ← made_flat a n ha, ← hz, ← htk, List.take_of_length_le (by rw [Array.length_toList, hcs]; exact Nat.le_refl _)]

theorem run_storeE {P : Program} (w : World) (g e k m : Nat) (ty : TypeId) (v : Value) (vs : List Value) (hv : v.cells = vs.toArray) (hm : vs.length = m) (hi : (P.info? ty).map (·.size) = some m) (h1 : ∀ u ∈ vs, u.oneCell' = true)
    (L : List (List Value)) (hg : RowE w g e L) (hL : ∀ l ∈ L, l.length = m) (hk : k < L.length) :
    (storeVar ty ⟨g, k * m, none⟩ v).run P w = .ok () (w.setRow g (L.set k vs).flatten.toArray) := by
  have hfl := flat_len hL
  have hle : (k + 1) * m ≤ L.length * m := Nat.mul_le_mul_right _ hk
  have hle2 : k * m + m ≤ L.length * m := by rw [Nat.add_mul] at hle; omega
  have := run_storeCells_at (P := P) g (k * m) e vs 0 L.flatten.toArray w hg (by rw [List.size_toArray, hfl, hm]; omega) h1
  rw [Nat.add_zero, show L.flatten.toArray.toList = L.flatten from rfl, flat_set hL hm hk] at this
  cases hq : P.info? ty with
  | none => simp [hq] at hi
  | some i =>
    have hs : i.size = m := by simpa [hq] using hi
    simp [storeVar, sizeOf, typeInfo, hq, hv, hs, hm, this]

theorem wp_storeE {P : Program} {o : Oper} {a : Act} {w : World} {K : Act → World → Prop} {Q : Exit → Act → World → Prop} (ty : TypeId) (x y : Operand) (ho : o.op = .store ty x y) (ad : Addr) (hx : a.eval x = .pointer (some ad))
    (g e k m : Nat) (had : ad = ⟨g, k * m, none⟩) (v : Value) (hy : a.eval y = v) (vs : List Value) (hv : v.cells = vs.toArray) (hm : vs.length = m) (hi : (P.info? ty).map (·.size) = some m) (h1 : ∀ u ∈ vs, u.oneCell' = true)
    (L : List (List Value)) (hg : RowE w g e L) (hL : ∀ l ∈ L, l.length = m) (hk : k < L.length)
    (h : K (a.put o.dst undef) (w.setRow g (L.set k vs).flatten.toArray)) : o.wp P a w K Q := by
  subst had hy
  unfold Oper.wp execOp
  simp only [ho, hx, Instr.storeAt, Instr.sureAddr, Sem.run_bind, Sem.run_pure, Result.andThen_ok, run_storeE w g e k m ty _ vs hv hm hi h1 L hg hL hk]
  exact h
theorem RowE.set {w : World} {g e : Nat} {L : List (List Value)} (hg : RowE w g e L) (M : List (List Value)) : RowE (w.setRow g M.flatten.toArray) g e M := setRow_heap w g _ _ e _ hg
/-- 'row[k] = v' at the operation, for the walk. -/
theorem wpList_storeE {P : Program} {ops : Array Oper} {rest : List Oper} {o : Oper} {a : Act} {w : World} {Q : Exit → Act → World → Prop} (hgd : o.guard = none) (ty : TypeId) (x y : Operand) (ho : o.op = .store ty x y) (ad : Addr) (hx : a.eval x = .pointer (some ad))
    (g e k m : Nat) (had : ad = ⟨g, k * m, none⟩) (v : Value) (hy : a.eval y = v) (vs : List Value) (hv : v.cells = vs.toArray) (hm : vs.length = m) (hi : (P.info? ty).map (·.size) = some m) (h1 : ∀ u ∈ vs, u.oneCell' = true)
    (L : List (List Value)) (hg : RowE w g e L) (hL : ∀ l ∈ L, l.length = m) (hk : k < L.length) (B : Nat) (w0 : World) (hb : Below B w0 w) (hB : B ≤ g)
    (h : ∀ w', Hid (RowE w' g e (L.set k vs)) → Hid (Below B w0 w') → w'.heap.size = w.heap.size → wpList P ops Q rest (a.put o.dst undef) w') : wpList P ops Q (o :: rest) a w :=
  wpList_plain hgd fun _ hK => wp_storeE ty x y ho ad hx g e k m had v hy vs hv hm hi h1 L hg hL hk (hK _ _ (h _ (hg.set _) (below_setRow hb hB _) (by simp)))
theorem RowE.below {w w' : World} {g e : Nat} {L : List (List Value)} (hg : RowE w g e L) (hb : Below w.heap.size w w') : RowE w' g e L := (hb.block g (Array.getElem?_eq_some_iff.1 hg).1).trans hg
theorem RowE.alloc {w : World} {g e : Nat} {L : List (List Value)} (hg : RowE w g e L) (o : Obj) : RowE (w.alloc o) g e L := (Below.heap_alloc w o g (Array.getElem?_eq_some_iff.1 hg).1).trans hg
theorem RowE.drew {w : World} {g e : Nat} {L : List (List Value)} (hg : RowE w g e L) : RowE w.drew g e L := hg
theorem RowE.lt {w : World} {g e : Nat} {L : List (List Value)} (hg : RowE w g e L) : g < w.heap.size := (Array.getElem?_eq_some_iff.1 hg).1

/-- A store of one more element. -/
theorem set_next {α : Type} (f : α → List Value) (z : List Value) (X : List α) (x : α) (r : Nat) : (X.map f ++ List.replicate (r + 1) z).set X.length (f x) = (X ++ [x]).map f ++ List.replicate r z := by
  rw [List.set_append_right _ _ (by simp), List.length_map, Nat.sub_self, List.replicate_succ, List.set_cons_zero, List.map_append, List.append_assoc]; rfl

/-- What the slices on such rows read as. -/
theorem RowE.slf {w : World} {g e n : Nat} {L : List Fd} (hg : RowE w g e (L.map fun x => [.string x.1, .string x.2])) (hl : L.length = n) (hm : n ≤ maxLen) (hz : ∀ x ∈ L, x.1.size ≤ maxLen ∧ x.2.size ≤ maxLen) : SlF w (some ⟨g, 0, none⟩) n n L := by
  subst hl
  have hf : (L.map fun x => [Value.string x.1, .string x.2]).flatten = fdC L := by unfold fdC; rw [List.flatMap_def]
  have hg : w.heap[g]? = some (.cells (fdC L).toArray e (0, 0)) := by rw [← hf]; exact hg
  refine ⟨rfl, Nat.le_refl _, hm, (fun e => by cases e), fun _ => ⟨_, rfl, fun j x hx => ?_⟩, hz⟩
  have h := fdC_at L j x hx
  rw [addr_add, addr_add, cell_of_row _ _ _ _ _ _ hg, cell_of_row _ _ _ _ _ _ hg]
  simpa using h
theorem RowE.slk {w : World} {g e n : Nat} {L : List Pk} (hg : RowE w g e (L.map fun x => [.string x.n, .bool x.h, .string x.v])) (hl : L.length = n) (hm : n ≤ maxLen) (hz : ∀ x ∈ L, x.n.size ≤ maxLen ∧ x.v.size ≤ maxLen) : SlK w (some ⟨g, 0, none⟩) n n L := by
  subst hl
  have hf : (L.map fun x => [Value.string x.n, .bool x.h, .string x.v]).flatten = pkC L := by unfold pkC; rw [List.flatMap_def]
  have hg : w.heap[g]? = some (.cells (pkC L).toArray e (0, 0)) := by rw [← hf]; exact hg
  refine ⟨rfl, Nat.le_refl _, hm, (fun e => by cases e), fun _ => ⟨_, rfl, fun j x hx => ?_⟩, hz⟩
  have h := pkC_at L j x hx
  rw [addr_add, addr_add, addr_add, cell_of_row _ _ _ _ _ _ hg, cell_of_row _ _ _ _ _ _ hg, cell_of_row _ _ _ _ _ _ hg]
  simpa using h
theorem flat_ones : ∀ L : List (List UInt8), (L.map fun x => [stV x]).flatten = L.map stV
  | [] => rfl
  | a :: r => by rw [List.map_cons, List.flatten_cons, flat_ones r, List.map_cons]; rfl
theorem RowE.sls {w : World} {g e n : Nat} {L : List (List UInt8)} (hg : RowE w g e (L.map fun x => [stV x])) (hl : L.length = n) (hm : n ≤ maxLen) : SlS w (some ⟨g, 0, none⟩) n n L := by
  subst hl
  have hf := flat_ones L
  have hg : w.heap[g]? = some (.cells (L.map stV).toArray e (0, 0)) := by rw [← hf]; exact hg
  refine ⟨rfl, Nat.le_refl _, hm, (fun e => by cases e), fun _ => ⟨_, rfl, fun j x hx => ?_⟩⟩
  rw [addr_add, cell_of_row _ _ _ _ _ _ hg]
  simp only [List.getElem?_toArray, List.getElem?_map, hx]
  rfl

/-- A row's element of two cells, cell by cell; both stored. -/
theorem RowE.at2 {w : World} {g e k : Nat} {L : List (List Value)} {a b : Value} (hg : RowE w g e L) (hL : ∀ l ∈ L, l.length = 2) (hk : L[k]? = some [a, b]) :
    w.cell? ⟨g, k * 2, none⟩ = some a ∧ w.cell? ⟨g, k * 2 + 1, none⟩ = some b ∧ w.frozen? ⟨g, k * 2, none⟩ = false ∧ w.frozen? ⟨g, k * 2 + 1, none⟩ = false := by
  have hd := flat_drop k hL
  have hlt := (List.getElem?_eq_some_iff.1 hk).1
  have he : L.drop k = [a, b] :: L.drop (k + 1) := by rw [List.drop_eq_getElem_cons hlt, (List.getElem?_eq_some_iff.1 hk).2]
  rw [he] at hd
  have h0 : L.flatten[k * 2]? = some a := by
    have := congrArg (fun l => l[0]?) hd
    simpa using this
  have h1 : L.flatten[k * 2 + 1]? = some b := by
    have := congrArg (fun l => l[1]?) hd
    simpa using this
  exact ⟨(cell_of_row _ _ _ _ _ _ hg).trans (by simpa using h0), (cell_of_row _ _ _ _ _ _ hg).trans (by simpa using h1), frozen_of_row _ _ _ _ _ hg, frozen_of_row _ _ _ _ _ hg⟩
theorem RowE.set2 {w : World} {g e k : Nat} {L : List (List Value)} (hg : RowE w g e L) (hL : ∀ l ∈ L, l.length = 2) (hk : k < L.length) (a b : Value) :
    RowE ((w.setCell ⟨g, k * 2, none⟩ a).setCell ⟨g, k * 2 + 1, none⟩ b) g e (L.set k [a, b]) := by
  have h1 := heap_setCell_same w g (k * 2) _ e a hg
  have h2 := heap_setCell_same _ g (k * 2 + 1) _ e b h1
  show _ = _
  rw [h2]
  congr 2
  have hlen := flat_len hL
  have hle : (k + 1) * 2 ≤ L.length * 2 := Nat.mul_le_mul_right _ hk
  rw [← flat_set (vs := [a, b]) hL rfl hk]
  apply Array.ext'
  rw [Array.toList_setIfInBounds, Array.toList_setIfInBounds]
  refine List.ext_getElem? fun i => ?_
  simp only [List.getElem?_set, List.getElem?_append, List.length_take, List.length_append, List.getElem?_take, List.getElem?_drop, List.length_cons, List.length_nil, List.length_set]
  by_cases i0 : i < k * 2
  · rw [if_neg (by omega), if_neg (by omega), if_pos (by omega), if_pos (by omega), if_pos i0]
  · by_cases i1 : i = k * 2
    · subst i1
      rw [if_neg (by omega), if_pos rfl, if_pos (by omega), if_pos (by omega), if_neg (by omega), show k * 2 - min (k * 2) L.flatten.length = 0 by omega]; rfl
    · by_cases i2 : i = k * 2 + 1
      · subst i2
        rw [if_pos rfl, if_pos (by omega), if_pos (by omega), if_neg (by omega), show k * 2 + 1 - min (k * 2) L.flatten.length = 1 by omega]; rfl
      · rw [if_neg (by omega), if_neg (by omega), if_neg (by omega)]
        congr 1; omega
theorem below_pair {B g i j : Nat} {w0 w : World} (hb : Below B w0 w) (hB : B ≤ g) (a b : Value) : Below B w0 ((w.setCell ⟨g, i, none⟩ a).setCell ⟨g, j, none⟩ b) := (hb.setCell hB a).setCell hB b

end Go.Proofs.YtjkfdjolhmgemaaGreatDoor
end
