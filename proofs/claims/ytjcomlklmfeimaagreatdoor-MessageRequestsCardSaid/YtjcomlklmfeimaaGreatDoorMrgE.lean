/-
  Texts that the laws of this seat lean on, one behind the other.
-/
import Derived.Test.YtjcomlklmfeimaaGreatDoorMrgD
import Derived.Deep.SlicePairs
import Derived.ChangeArms
import Derived.Test.YtjcomlklmfeimaaGreatDoorMrgA
import Derived.Test.YtjcomlklmfeimaaGreatDoorMrgB
import Derived.Lib.CutLaws
import Derived.Lib.SlTrimSet
/-
  Slices of structs of two strings (header fields): what a slice reads as, nil or not; rows of the call's own, and what is appended to them.
-/
section
namespace Go.Proofs.YtjcomlklmfeimaaGreatDoor
open Go.RowKit Go.ChangeShapes Go.WideShapes

/-- A field: its name and its value. -/
abbrev Fd := ByteArray × ByteArray
/-- A field that no sum of sizes is too great for. -/
def Bd (x : Fd) : Prop := x.1.size ≤ 1000000000 ∧ x.2.size ≤ 1000000000
theorem Bd.one {x : Fd} (h : Bd x) : x.1.size ≤ maxLen := by have := h.1; unfold maxLen; omega
theorem Bd.two {x : Fd} (h : Bd x) : x.2.size ≤ maxLen := by have := h.2; unfold maxLen; omega
def fdV (x : Fd) : Value := .agg #[.string x.1, .string x.2]
def fdC (L : List Fd) : List Value := L.flatMap fun x => [.string x.1, .string x.2]
theorem fdC_nil : fdC [] = [] := rfl
theorem fdC_cons (x : Fd) (L : List Fd) : fdC (x :: L) = .string x.1 :: .string x.2 :: fdC L := rfl
theorem fdC_append (L M : List Fd) : fdC (L ++ M) = fdC L ++ fdC M := by simp [fdC]
theorem fdC_len : ∀ L : List Fd, (fdC L).length = L.length * 2
  | [] => rfl
  | x :: L => by rw [fdC_cons, List.length_cons, List.length_cons, fdC_len L, List.length_cons]; omega
theorem fdC_at : ∀ (L : List Fd) (j : Nat) (x : Fd), L[j]? = some x → (fdC L)[j * 2]? = some (.string x.1) ∧ (fdC L)[j * 2 + 1]? = some (.string x.2)
  | [], j, x, h => by simp at h
  | y :: L, 0, x, h => by
    simp only [List.getElem?_cons_zero, Option.some.injEq] at h
    subst h
    exact ⟨rfl, rfl⟩
  | y :: L, j + 1, x, h => by
    rw [List.getElem?_cons_succ] at h
    have := fdC_at L j x h
    rw [fdC_cons, show (j + 1) * 2 = j * 2 + 1 + 1 by omega, show j * 2 + 1 + 1 + 1 = (j * 2 + 1) + 1 + 1 by omega]
    simpa using this
theorem fdC_ones (L : List Fd) : ∀ u ∈ fdC L, u.oneCell' = true := fun u hu => by
  obtain ⟨x, _, hx⟩ := List.mem_flatMap.1 hu
  simp only [List.mem_cons, List.not_mem_nil, or_false] at hx
  rcases hx with rfl | rfl <;> rfl
theorem fdC_of (L : List Fd) (j : Nat) (u : Value) (h : (fdC L)[j]? = some u) : ∃ x, L[j / 2]? = some x ∧ ((j % 2 = 0 ∧ u = .string x.1) ∨ (j % 2 = 1 ∧ u = .string x.2)) := by
  have hj : j < (fdC L).length := (List.getElem?_eq_some_iff.1 h).1
  rw [fdC_len] at hj
  have hlt : j / 2 < L.length := by omega
  refine ⟨L[j / 2], List.getElem?_eq_getElem hlt, ?_⟩
  have hx := fdC_at L (j / 2) _ (List.getElem?_eq_getElem hlt)
  rcases Nat.mod_two_eq_zero_or_one j with e | e
  · rw [show j / 2 * 2 = j by omega, h] at hx
    exact .inl ⟨e, by simpa using hx.1⟩
  · rw [show j / 2 * 2 + 1 = j by omega, h] at hx
    exact .inr ⟨e, by simpa using hx.2⟩

/-- The slice of n fields at A, of capacity c, reads as L. -/
structure SlF (w : World) (A : Option Addr) (n c : Nat) (L : List Fd) : Prop where
  len : L.length = n
  cap : n ≤ c
  cm : c ≤ maxLen
  nil : A = none → c = 0
  at_ : 0 < n → ∃ ad, A = some ad ∧ ∀ j x, L[j]? = some x → w.cell? (ad.add (j * 2)) = some (.string x.1) ∧ w.cell? (ad.add (j * 2 + 1)) = some (.string x.2)
  sz : ∀ x ∈ L, x.1.size ≤ maxLen ∧ x.2.size ≤ maxLen

section
variable {w w' : World} {A : Option Addr} {n c : Nat} {L : List Fd}
theorem SlF.none_ (w : World) : SlF w none 0 0 [] := ⟨rfl, Nat.le_refl _, Nat.zero_le _, fun _ => rfl, fun h => absurd h (by omega), fun _ h => by cases h⟩
theorem SlF.none_eq (h : SlF w none n c L) : n = 0 ∧ c = 0 ∧ L = [] := by
  have h1 := h.nil rfl
  have h2 := h.cap
  have h3 := h.len
  exact ⟨by omega, h1, List.eq_nil_of_length_eq_zero (by omega)⟩
theorem SlF.keep (h : SlF w A n c L) (hk : ∀ a u, w.cell? a = some u → w'.cell? a = some u) : SlF w' A n c L :=
  ⟨h.len, h.cap, h.cm, h.nil, fun hn => by
    obtain ⟨ad, e, hc⟩ := h.at_ hn
    exact ⟨ad, e, fun j x hx => ⟨hk _ _ (hc j x hx).1, hk _ _ (hc j x hx).2⟩⟩, h.sz⟩
theorem SlF.below (h : SlF w A n c L) (hb : Below w.heap.size w w') : SlF w' A n c L := h.keep fun _ _ hu => cell_kept hb hu
theorem SlF.alloc (h : SlF w A n c L) (o : Obj) : SlF (w.alloc o) A n c L := h.keep fun _ _ hu => Lib.cell?_alloc_some o hu
theorem SlF.drew (h : SlF w A n c L) : SlF w.drew A n c L := ⟨h.len, h.cap, h.cm, h.nil, h.at_, h.sz⟩
theorem SlF.le (h : SlF w A n c L) : L.length ≤ maxLen := by have := h.len; have := h.cap; have := h.cm; omega
theorem SlF.cells {ad : Addr} (h : SlF w (some ad) n c L) : ∀ j x, L[j]? = some x → w.cell? (ad.add (j * 2)) = some (.string x.1) ∧ w.cell? (ad.add (j * 2 + 1)) = some (.string x.2) := fun j x hx => by
  have : j < L.length := (List.getElem?_eq_some_iff.1 hx).1
  obtain ⟨ad', e, hc⟩ := h.at_ (by have := h.len; omega)
  cases e
  exact hc j x hx
theorem SlF.news {ad : Addr} (h : SlF w (some ad) n c L) : ∀ j u, (fdC L)[j]? = some u → w.cell? (ad.add j) = some u := fun j u hu => by
  obtain ⟨x, hx, hj⟩ := fdC_of L j u hu
  have hc := h.cells _ x hx
  rcases hj with ⟨e, rfl⟩ | ⟨e, rfl⟩
  · rw [show j / 2 * 2 = j by omega] at hc; exact hc.1
  · rw [show j / 2 * 2 + 1 = j by omega] at hc; exact hc.2

theorem SlF.of_own {base e : Nat} {v : Value} (h : w.ownsRow base e 2 v n (fdC L)) (hz : ∀ x ∈ L, x.1.size ≤ maxLen ∧ x.2.size ≤ maxLen) : ∃ A c, v = .slice A n c ∧ SlF w A n c L := by
  have hl : L.length = n := by have := h.1; rw [fdC_len] at this; omega
  rcases h.2 with ⟨rfl, rfl⟩ | ⟨g, cap, cur, rfl, _, hg, hnc, hcm, hcs, ht⟩
  · obtain rfl : L = [] := List.eq_nil_of_length_eq_zero hl
    exact ⟨_, _, rfl, SlF.none_ w⟩
  · exact ⟨_, _, rfl, hl, hnc, hcm, (fun e => by cases e), (fun _ => ⟨_, rfl, fun j x hx => ⟨h.cells (g := g) rfl _ _ (fdC_at L j x hx).1, h.cells (g := g) rfl _ _ (fdC_at L j x hx).2⟩⟩), hz⟩

theorem SlF.of_trod {H : Type} {enc : TypeId × Value → H} {P : Program} {base : Nat} {held : Bool} {t e : TypeId} {f0 f1 : Field} {d : DataW H} {p : List MemPlace} (ht : P.underlying t = some (.slice e)) (he : P.underlying e = some (.struct #[f0, f1]))
    (ce : P.cellsOf e = 2) (o0 : f0.offset = 0) (o1 : f1.offset = 1) (c0 : P.cellsOf f0.type = 1) (c1 : P.cellsOf f1.type = 1) (i0 : P.underlying f0.type = some .string) (i1 : P.underlying f1.type = some .string)
    (h : DataW.Trod enc P w base (fun _ => true) held t (.slice A n c) d p) : ∃ L, SlF w A n c L := by
  obtain ⟨fuel, hf⟩ := h
  rcases Deep.open_slice_pairs ht he ce o0 o1 c0 c1 hf with ⟨hcs, _⟩ | ⟨a, len, cap, m, n', V0, V1, D0, D1, P0, P1, hcs, _, hl, hm, hmm, _, hx⟩
  · simp [Value.cells] at hcs
    obtain ⟨rfl, rfl, rfl⟩ := hcs
    exact ⟨[], SlF.none_ w⟩
  · simp [Value.cells] at hcs
    obtain ⟨rfl, rfl, rfl⟩ := hcs
    have hmc : n ≤ m := by rw [hmm]; simpa using hl
    have each : ∀ i, i < n → ∃ x : Fd, w.cell? (a.add (i * 2)) = some (.string x.1) ∧ w.cell? (a.add (i * 2 + 1)) = some (.string x.2) ∧ x.1.size ≤ maxLen ∧ x.2.size ≤ maxLen := fun i hi => by
      obtain ⟨h1, h2, h3, h4⟩ := hx i (by omega)
      obtain ⟨k0, e0, _, w0⟩ := DataW.trod_string i0 h3
      obtain ⟨k1, e1, _, w1⟩ := DataW.trod_string i1 h4
      simp only [List.cons.injEq, and_true] at e0 e1
      exact ⟨(k0, k1), by rw [h1, e0], by rw [h2, e1], w0, w1⟩
    obtain ⟨q, hq⟩ := Deep.choose_lt each
    refine ⟨(List.range n).map q, by simp, hl, hm, (fun e => by cases e), fun _ => ⟨a, rfl, fun j x hj => ?_⟩, fun x hx => ?_⟩
    · rw [List.getElem?_map, Option.map_eq_some_iff] at hj
      obtain ⟨i, hi, rfl⟩ := hj
      obtain ⟨h1, h2⟩ := List.getElem?_eq_some_iff.1 hi
      simp only [List.length_range, List.getElem_range] at h1 h2
      subst h2
      exact ⟨(hq j h1).1, (hq j h1).2.1⟩
    · obtain ⟨i, hi, rfl⟩ := List.mem_map.1 hx
      exact (hq i (List.mem_range.1 hi)).2.2
end

/-- The second cell of a field, as a load asks for it. -/
theorem fd_snd {w : World} {ad : Addr} {k : Nat} {v : Value} (h : w.cell? (ad.add (k * 2 + 1)) = some v) : w.cell? { block := (ad.add (k * 2)).block, off := (ad.add (k * 2)).off + 1 } = some v := by
  rw [← Go.Addr.add_add] at h
  rwa [Addr.add_succ'] at h

/-- A block of one field. -/
theorem SlF.one (w : World) (t : TypeId) (x : Fd) (hz : x.1.size ≤ maxLen ∧ x.2.size ≤ maxLen) : SlF (w.alloc (.cells #[.string x.1, .string x.2] t)) (some ⟨w.heap.size, 0, none⟩) 1 1 [x] := by
  refine ⟨rfl, Nat.le_refl _, by decide, (fun e => by cases e), fun _ => ⟨_, rfl, fun j y hy => ?_⟩, fun y hy => ?_⟩
  · rcases j with _ | j
    · simp only [List.getElem?_cons_zero, Option.some.injEq] at hy
      subst hy
      rw [addr_add, addr_add, cell_of_row _ _ _ _ _ _ (heap_alloc_new w _), cell_of_row _ _ _ _ _ _ (heap_alloc_new w _)]
      exact ⟨rfl, rfl⟩
    · simp at hy
  · simp only [List.mem_singleton] at hy
    subst hy
    exact hz

/-- Fields in memory of the call's own, from block 'base' on. -/
def OwnF (w : World) (base e : Nat) (v : Value) (X : List Fd) : Prop := w.ownsRow base e 2 v X.length (fdC X)
theorem OwnF.slf {w : World} {base e : Nat} {v : Value} {X : List Fd} (h : OwnF w base e v X) (hz : ∀ x ∈ X, x.1.size ≤ maxLen ∧ x.2.size ≤ maxLen) : ∃ A c, v = .slice A X.length c ∧ SlF w A X.length c X := SlF.of_own h hz
theorem OwnF.form {w : World} {base e : Nat} {v : Value} {X : List Fd} (h : OwnF w base e v X) : ∃ A c, v = .slice A X.length c := by
  rcases h.2 with ⟨rfl, h0⟩ | ⟨g, cap, cur, rfl, _⟩
  · exact ⟨none, 0, by rw [h0]⟩
  · exact ⟨_, _, rfl⟩
theorem OwnF.nil (w : World) (base e : Nat) : OwnF w base e (.slice none 0 0) [] := World.ownsRow_nil _ _ _ _
theorem OwnF.alloc {w : World} {base e : Nat} {v : Value} {X : List Fd} (h : OwnF w base e v X) (o : Obj) : OwnF (w.alloc o) base e v X := World.ownsRow.alloc h o
theorem OwnF.drew {w : World} {base e : Nat} {v : Value} {X : List Fd} (h : OwnF w base e v X) : OwnF w.drew base e v X := World.ownsRow.drew h
theorem OwnF.below {w w' : World} {base e : Nat} {v : Value} {X : List Fd} (h : OwnF w base e v X) (hb : Below w.heap.size w w') : OwnF w' base e v X := ownsRow_below h hb

theorem OwnF.wide {w : World} {base base' e : Nat} {v : Value} {X : List Fd} (h : OwnF w base e v X) (hb : base' ≤ base) : OwnF w base' e v X := by
  refine ⟨h.1, ?_⟩
  rcases h.2 with h2 | ⟨g, cap, cur, h1, h2, h3⟩
  · exact .inl h2
  · exact .inr ⟨g, cap, cur, h1, by omega, h3⟩

/-- 'append(out, xs...)' on fields: out the call's own, xs any slice, nil or not. -/
theorem wpList_append_slf {P : Program} {ops : Array Oper} {rest : List Oper} {o : Oper} {a : Act} {w : World} {Q : Exit → Act → World → Prop} (hgd : o.guard = none) (s x : Operand) (t : TypeId)
    (ho : o.op = .call { callee := .builtin .append, args := #[s, x], argTypes := #[t, t] }) (base e : Nat) (ht : P.underlying t = some (.slice e))
    (hI : (P.info? e).map (fun i => (i.zero, i.size, i.bytes)) = some (some (.agg #[.string ⟨#[]⟩, .string ⟨#[]⟩]), 2, 32)) (v : Value) (hs : a.eval s = v) (X : List Fd) (hown : OwnF w base e v X)
    (A : Option Addr) (m c : Nat) (hx : a.eval x = .slice A m c) (Y : List Fd) (hY : SlF w A m c Y) (hlen : X.length + Y.length ≤ 1000000000) (hbase : base ≤ w.heap.size) (w0 : World) (hb : Below base w0 w)
    (h : ∀ v' w', Hid (OwnF w' base e v' (X ++ Y)) → Below base w0 w' → w.heap.size ≤ w'.heap.size → wpList P ops Q rest (a.put o.dst v') w') : wpList P ops Q (o :: rest) a w := by
  obtain ⟨i0, hi, hz0, hz1, hz2⟩ := info_parts hI
  rcases A with _ | ad
  · obtain ⟨rfl, rfl, rfl⟩ := hY.none_eq
    refine wpList_append_own_none hgd s x t ho base e i0 2 ht hi v _ _ hs hown hx ?_
    exact h v w (by rw [List.append_nil]; exact hown) hb (Nat.le_refl _)
  · have hl := hY.len
    refine wpList_append_own w hgd s x t ho base e i0 (.agg #[.string ⟨#[]⟩, .string ⟨#[]⟩]) 2 32 ht hi hz0 hz1 hz2 rfl (by decide) v _ _ hs hown ad m c (fdC Y) hx (by rw [fdC_len, hl]) hY.news (fdC_ones _) (by unfold maxLen; omega) (by omega) hbase ?_
    intro v' w' hown' hgrow _
    refine h v' w' ?_ (hb.grown hgrow hbase (fun k hk => (hown.lt k hk).1)) hgrow.size
    show World.ownsRow _ _ _ _ _ _ _
    rw [List.length_append, hl, fdC_append]
    exact hown'

/-! ### A variable that a call leaves as it was -/
theorem zero_then {W w2 : World} {o : Obj} (hb : Below (W.alloc o).heap.size (W.alloc o) w2) : Below W.heap.size W w2 := ((Below.refl _ _).alloc (Nat.le_refl _) o).trans (hb.mono (by simp))
theorem zero_at {W w2 : World} {o : Obj} (hb : Below (W.alloc o).heap.size (W.alloc o) w2) : w2.heap[W.heap.size]? = some o := (hb.block _ (by simp)).trans (heap_alloc_new W o)
theorem zero_still {W w2 : World} {o : Obj} {B : Nat} (hb : Below W.heap.size W w2) (h : W.heap[B]? = some o) : w2.heap[B]? = some o := (hb.block _ (Array.getElem?_eq_some_iff.1 h).1).trans h
theorem zero_two {W : World} {g t : Nat} {c0 c1 : Value} (h : W.heap[g]? = some (.cells #[c0, c1] t (0, 0))) : W.cell? ⟨g, 0, none⟩ = some c0 ∧ W.cell? ⟨g, 1, none⟩ = some c1 :=
  ⟨(cell_of_row _ _ 0 _ _ _ h).trans rfl, (cell_of_row _ _ 1 _ _ _ h).trans rfl⟩
theorem zero_one {W : World} {g t : Nat} {c0 : Value} (h : W.heap[g]? = some (.cells #[c0] t (0, 0))) : W.cell? ⟨g, 0, none⟩ = some c0 := (cell_of_row _ _ 0 _ _ _ h).trans rfl
theorem zero_more {W : World} {g : Nat} {o o' : Obj} (h : W.heap[g]? = some o) : (W.alloc o').heap[g]? = some o := (Below.heap_alloc W o' g (Array.getElem?_eq_some_iff.1 h).1).trans h

end Go.Proofs.YtjcomlklmfeimaaGreatDoor
end

/-
  Plain facts of a field and its line (layer 9), without items: prpF, lineS, what Parse answers; a variable of two cells.
-/
section
namespace Go.Proofs.YtjcomlklmfeimaaGreatDoor
open Go.RowKit

/-- May a field be, but for its length? -/
def prpF (x : Fd) : Bool := ((!x.1.toList.isEmpty && allB tokB x.1.data.toList) && allB txtB x.2.data.toList) && ((mkS (trimL x.2.data.toList)).toList == x.2.toList)
def lineS (x : Fd) : ByteArray := x.1 ++ (⟨#[58, 32]⟩ : ByteArray) ++ x.2
def lngF (x : Fd) : Bool := decide (8192 < x.1.size + 2 + x.2.size)
theorem line_list (x : Fd) : (lineS x).data.toList = x.1.data.toList ++ [58, 32] ++ x.2.data.toList := by
  unfold lineS
  rw [append_list, append_list]
theorem line_size (x : Fd) : (lineS x).size = x.1.size + 2 + x.2.size := by
  unfold lineS
  rw [ByteArray.size_append, ByteArray.size_append]; rfl

/-! ### Parse -/
def flT (s : ByteArray) : Fd := (cutA s 58, mkS (trimL (cutZ s 58).data.toList))
def flO (s : ByteArray) : Bool := cutOk s 58 && ((!(flT s).1.toList.isEmpty && allB tokB (flT s).1.data.toList) && allB txtB (flT s).2.data.toList)
def flF (s : ByteArray) : Fd := if 8192 < s.size then (⟨#[]⟩, ⟨#[]⟩) else if flO s then flT s else (⟨#[]⟩, ⟨#[]⟩)
def flX (s : ByteArray) : Int := if 8192 < s.size then 4 else if flO s then 0 else 21
theorem fl_prp (s : ByteArray) : (cutOk s 58 && prpF (flT s)) = flO s := by
  have h : ((mkS (trimL (flT s).2.data.toList)).toList == (flT s).2.toList) = true := by
    show ((mkS (trimL (mkS (trimL (cutZ s 58).data.toList)).data.toList)).toList == (mkS (trimL (cutZ s 58).data.toList)).toList) = true
    rw [mkS_list, trim_of_edge (trim_edge _)]
    simp
  unfold prpF flO
  rw [h, Bool.and_true]
theorem fl_no {s : ByteArray} (h : ¬ 8192 < s.size) (ho : flO s = false) : flF s = (⟨#[]⟩, ⟨#[]⟩) ∧ flX s = 21 := by simp [flF, flX, h, ho]
theorem fl_yes {s : ByteArray} (h : ¬ 8192 < s.size) (ho : flO s = true) : flF s = flT s ∧ flX s = 0 := by simp [flF, flX, h, ho]
theorem fl_long {s : ByteArray} (h : 8192 < s.size) : flF s = (⟨#[]⟩, ⟨#[]⟩) ∧ flX s = 4 := by simp [flF, flX, h]
theorem fd_cells {W : World} {g t : Nat} {c0 c1 : Value} (h : W.heap[g]? = some (.cells #[c0, c1] t (0, 0))) :
    W.cell? ⟨g, 0, none⟩ = some c0 ∧ W.cell? ⟨g, 1, none⟩ = some c1 ∧ W.frozen? ⟨g, 0, none⟩ = false ∧ W.frozen? ⟨g, 1, none⟩ = false := by
  refine ⟨(zero_two h).1, (zero_two h).2, ?_, ?_⟩
  all_goals simp [World.frozen?, h]
theorem fd_set {W : World} {g t : Nat} {d0 d1 c0 c1 : Value} (h : W.heap[g]? = some (.cells #[d0, d1] t (0, 0))) :
    ((W.setCell ⟨g, 0, none⟩ c0).setCell ⟨g, 1, none⟩ c1).heap[g]? = some (.cells #[c0, c1] t (0, 0)) := by
  simp [World.setCell, Array.getElem?_modify, h]
theorem below_set2 {B g : Nat} {w W : World} {c0 c1 : Value} (h : Below B w W) (hg : B ≤ g) : Below B w ((W.setCell ⟨g, 0, none⟩ c0).setCell ⟨g, 1, none⟩ c1) :=
  (h.setCell (p := ⟨g, 0, none⟩) hg _).setCell (p := ⟨g, 1, none⟩) hg _
theorem flA_le (s : ByteArray) (c : Int) : (cutA s c).size ≤ s.size := by
  unfold cutA
  split
  · exact Nat.le_refl _
  · rw [ByteArray.size_extract]; omega
theorem flZ_le (s : ByteArray) (c : Int) : (cutZ s c).size ≤ s.size := by
  unfold cutZ
  split
  · exact Nat.zero_le _
  · rw [ByteArray.size_extract]; omega
theorem rdw_le (l : List UInt8) : (rdw l).length ≤ l.length := (rdw_prefix l).length_le
theorem trim_le (l : List UInt8) : (trimL l).length ≤ l.length := Nat.le_trans (rdw_le _) (List.IsSuffix.length_le (List.dropWhile_suffix _))
theorem flT_le (s : ByteArray) : (flT s).1.size ≤ s.size ∧ (flT s).2.size ≤ s.size := by
  refine ⟨flA_le s 58, ?_⟩
  show (mkS (trimL (cutZ s 58).data.toList)).size ≤ _
  rw [mkS_size]
  refine Nat.le_trans (trim_le _) ?_
  rw [← Lib.size_eq]
  exact flZ_le s 58

end Go.Proofs.YtjcomlklmfeimaaGreatDoor
end

/-
  Plain functions of layer 11, without the program: lines, sizes, chunks.
-/
section
namespace Go.Proofs.YtjcomlklmfeimaaGreatDoor
open Go.RowKit

/-- The first line, and what stands behind its end. -/
def lineL : List UInt8 → Option (List UInt8 × List UInt8)
  | [] => none
  | [_] => none
  | c :: d :: r => if c = 13 ∧ d = 10 then some ([], r) else (lineL (d :: r)).map fun p => (c :: p.1, p.2)
theorem lineL_hit (r : List UInt8) : lineL (13 :: 10 :: r) = some ([], r) := by rw [lineL, if_pos ⟨rfl, rfl⟩]
theorem lineL_step {c d : UInt8} {r : List UInt8} (h : ¬ (c = 13 ∧ d = 10)) : lineL (c :: d :: r) = (lineL (d :: r)).map fun p => (c :: p.1, p.2) := by rw [lineL, if_neg h]
theorem lineL_form : ∀ {l ln r : List UInt8}, lineL l = some (ln, r) → l = ln ++ 13 :: 10 :: r
  | [], _, _, h => by cases h
  | [_], _, _, h => by cases h
  | c :: d :: t, ln, r, h => by
    by_cases e : c = 13 ∧ d = 10
    · rw [e.1, e.2, lineL_hit] at h
      cases h
      rw [e.1, e.2]; rfl
    · rw [lineL_step e, Option.map_eq_some_iff] at h
      obtain ⟨p, hp, he⟩ := h
      obtain ⟨q, t2⟩ := p
      simp only [Prod.mk.injEq] at he
      rw [lineL_form hp, ← he.1, ← he.2]; rfl
/-- The place of the first line's end from place i on, or -1. -/
def endV (s : ByteArray) (i : Nat) : Int := match lineL (s.data.toList.drop i) with | some p => (i : Int) + p.1.length | none => -1
theorem endV_hit (s : ByteArray) (i : Nat) (h : i + 1 < s.size) (h1 : s[i] = 13) (h2 : s[i + 1] = 10) : endV s i = i := by
  unfold endV
  rw [drop_at s i (by omega), drop_at s (i + 1) h, h1, h2, lineL_hit]
  simp
theorem endV_step (s : ByteArray) (i : Nat) (h : i + 1 < s.size) (hn : ¬ (s[i] = 13 ∧ s[i + 1] = 10)) : endV s i = endV s (i + 1) := by
  unfold endV
  rw [drop_at s i (by omega), drop_at s (i + 1) h, lineL_step hn]
  cases lineL (s[i + 1] :: s.data.toList.drop (i + 1 + 1)) with
  | none => rfl
  | some p => simp; omega
theorem endV_end (s : ByteArray) (i : Nat) (h : s.size ≤ i + 1) : endV s i = -1 := by
  unfold endV
  have hl : (s.data.toList.drop i).length ≤ 1 := by rw [List.length_drop, ← Lib.size_eq]; omega
  match s.data.toList.drop i, hl with
  | [], _ => rfl
  | [_], _ => rfl
  | _ :: _ :: _, h => simp at h

/-- A chunk's line: the size's digits, its number, its error. -/
def szL (s : ByteArray) : List UInt8 := rdw (cutA s 59).data.toList
def szV (s : ByteArray) : Int := numN 16 15 1152921504606846976 (szL s)
def szB (s : ByteArray) : Bool := (numE 16 15 1152921504606846976 (szL s) == 0) && (!cutOk s 59 || allB txtB (cutZ s 59).data.toList)
def szE (s : ByteArray) : Int := if szB s then (if 65536 < szV s then 4 else 0) else 25
def szN (s : ByteArray) : Int := if szE s = 0 then szV s else 0
theorem sz_bad {s : ByteArray} (h : szB s = false) : szE s = 25 ∧ szN s = 0 := by simp [szE, szN, h]
theorem sz_big {s : ByteArray} (h : szB s = true) (g : 65536 < szV s) : szE s = 4 ∧ szN s = 0 := by simp [szE, szN, h, g]
theorem sz_fine {s : ByteArray} (h : szB s = true) (g : ¬ 65536 < szV s) : szE s = 0 ∧ szN s = szV s := by simp [szE, szN, h, g]
theorem szV_nn (s : ByteArray) : 0 ≤ szV s := by
  unfold szV numN
  split
  · exact Int.le_refl _
  · exact valV_nn (by decide) _
theorem szN_le (s : ByteArray) : 0 ≤ szN s ∧ szN s ≤ 65536 := by
  have h := szV_nn s
  unfold szN
  split
  · rename_i e
    unfold szE at e
    split at e
    · split at e
      · cases e
      · omega
    · cases e
  · omega

/-- The trailer: error, and how many bytes it takes. -/
def trl : Nat → Nat → List UInt8 → Int × List UInt8
  | 0, _, l => (25, l)
  | m + 1, k, l => match lineL l with
    | none => (25, l)
    | some (ln, r) => if ln = [] then (0, r) else if flX (mkS ln) ≠ 0 then (25, l) else if 64 ≤ k then (4, l) else trl m (k + 1) r
/-- Chunks: error, body, what stands behind. -/
def dcd : Nat → List UInt8 → List UInt8 → Int × List UInt8 × List UInt8
  | 0, _, l => (25, [], l)
  | m + 1, b, l => match lineL l with
    | none => (25, [], l)
    | some (ln, r) =>
      if szE (mkS ln) ≠ 0 then (szE (mkS ln), [], l)
      else if szN (mkS ln) = 0 then ((trl (r.length + 1) 0 r).1, (if (trl (r.length + 1) 0 r).1 = 0 then b else []), (trl (r.length + 1) 0 r).2)
      else if 65536 < (b.length : Int) + szN (mkS ln) then (4, [], l)
      else if r.length < (szN (mkS ln)).toNat + 2 ∨ r[(szN (mkS ln)).toNat]? ≠ some 13 ∨ r[(szN (mkS ln)).toNat + 1]? ≠ some 10 then (25, [], l)
      else dcd m (b ++ r.take (szN (mkS ln)).toNat) (r.drop ((szN (mkS ln)).toNat + 2))

def decD (s : ByteArray) : Int × List UInt8 × List UInt8 := dcd (s.size + 1) [] s.data.toList
def decE (s : ByteArray) : Int := (decD s).1
def decB (s : ByteArray) : ByteArray := if (decD s).1 = 0 then mkS (decD s).2.1 else ⟨#[]⟩
def decN (s : ByteArray) : Int := if (decD s).1 = 0 then (s.size : Int) - (decD s).2.2.length else 0
theorem dec_bad {s : ByteArray} {c : Int} {x y : List UInt8} (h : decD s = (c, x, y)) (hc : c ≠ 0) : decB s = ⟨#[]⟩ ∧ decN s = 0 ∧ decE s = c := by
  unfold decB decN decE
  rw [h]
  simp [hc]
theorem dec_ok {s : ByteArray} {x y : List UInt8} (h : decD s = (0, x, y)) : decB s = mkS x ∧ decN s = (s.size : Int) - y.length ∧ decE s = 0 := by
  unfold decB decN decE
  rw [h]
  simp
/-- The first line of what stands from a place on. -/
theorem line_at {s : ByteArray} {i : Nat} {ln r : List UInt8} (h : lineL (s.data.toList.drop i) = some (ln, r)) (hi : i ≤ s.size) : i + ln.length + 2 + r.length = s.size ∧ s.extract i (i + ln.length) = mkS ln ∧ r = s.data.toList.drop (i + ln.length + 2) := by
  have hf := lineL_form h
  have hl := congrArg List.length hf
  rw [List.length_drop, ← Lib.size_eq, List.length_append, List.length_cons, List.length_cons] at hl
  refine ⟨by omega, ?_, ?_⟩
  · refine mkS_eq ?_
    rw [piece_ext, mkS_list]
    show (s.data.toList.drop i).take (i + ln.length - i) = ln
    rw [hf, show i + ln.length - i = ln.length by omega, List.take_append_of_le_length (Nat.le_refl _), List.take_length]
  · have : s.data.toList.drop (i + ln.length + 2) = (s.data.toList.drop i).drop (ln.length + 2) := by rw [List.drop_drop, show i + (ln.length + 2) = i + ln.length + 2 by omega]
    rw [this, hf, List.drop_append, List.drop_eq_nil_of_le (by omega), show ln.length + 2 - ln.length = 2 by omega]
    rfl

/-- What stands at a place behind a place. -/
theorem at_drop {s : ByteArray} {a n : Nat} (h : a + n < s.size) : (s.data.toList.drop a)[n]? = some s[a + n] := by
  rw [List.getElem?_drop, ← List.head?_drop, drop_at s (a + n) h]; rfl
/-- The body so far and one chunk. -/
theorem add_piece (B s : ByteArray) (a n : Nat) (h : a + n ≤ s.size) : (B ++ s.extract a (a + n)).data.toList = B.data.toList ++ (s.data.toList.drop a).take n ∧ (B ++ s.extract a (a + n)).size = B.size + n := by
  constructor
  · rw [show (B ++ s.extract a (a + n)).data.toList = B.data.toList ++ (s.extract a (a + n)).data.toList by simp]
    congr 1
    rw [piece_ext, mkS_list]
    show (s.data.toList.drop a).take (a + n - a) = _
    rw [show a + n - a = n by omega]
  · rw [ByteArray.size_append, ByteArray.size_extract]; omega
/-- A chunk whose end is not there. -/
theorem no_crlf {s : ByteArray} {a n : Nat} (h : a + n + 2 ≤ s.size) (g : ¬ (s[a + n] = 13 ∧ s[a + n + 1] = 10)) : (s.data.toList.drop a).length < n + 2 ∨ (s.data.toList.drop a)[n]? ≠ some 13 ∨ (s.data.toList.drop a)[n + 1]? ≠ some 10 := by
  right
  rw [at_drop (show a + n < s.size by omega), at_drop (show a + (n + 1) < s.size by omega)]
  by_cases e : s[a + n] = 13
  · right
    intro h2
    exact g ⟨e, Option.some.inj h2⟩
  · left
    intro h2
    exact e (Option.some.inj h2)
theorem has_crlf {s : ByteArray} {a n : Nat} (h : a + n + 2 ≤ s.size) (e1 : s[a + n] = 13) (e2 : s[a + n + 1] = 10) : ¬ ((s.data.toList.drop a).length < n + 2 ∨ (s.data.toList.drop a)[n]? ≠ some 13 ∨ (s.data.toList.drop a)[n + 1]? ≠ some 10) := by
  rw [at_drop (show a + n < s.size by omega), at_drop (show a + (n + 1) < s.size by omega), List.length_drop, ← Lib.size_eq]
  have e3 : s[a + (n + 1)] = 10 := e2
  rw [e1, e3]
  simp
  omega

end Go.Proofs.YtjcomlklmfeimaaGreatDoor
end

/-
  Plain functions of layer 11, without the program: a body's chunks.
-/
section
namespace Go.Proofs.YtjcomlklmfeimaaGreatDoor
open Go.RowKit

/-- The chunks of a body. -/
def encG : Nat → Nat → List UInt8 → List UInt8
  | 0, _, _ => [48, 13, 10, 13, 10]
  | m + 1, z, l => if l = [] then [48, 13, 10, 13, 10] else digs 16 (min z l.length) ++ 13 :: 10 :: (l.take z ++ 13 :: 10 :: encG m z (l.drop z))
def encF (s : ByteArray) (z : Int) : Int := if z < 1 ∨ 65536 < z then 2 else if 65536 < s.size then 4 else 0
def encS (s : ByteArray) (z : Int) : ByteArray := if encF s z = 0 then mkS (encG (s.size + 1) z.toNat s.data.toList) else ⟨#[]⟩
theorem enc_arg {s : ByteArray} {z : Int} (h : z < 1 ∨ 65536 < z) : encF s z = 2 ∧ encS s z = ⟨#[]⟩ := by simp [encS, encF, h]
theorem enc_long {s : ByteArray} {z : Int} (h : ¬ (z < 1 ∨ 65536 < z)) (g : 65536 < s.size) : encF s z = 4 ∧ encS s z = ⟨#[]⟩ := by
  have e : encF s z = 4 := by unfold encF; rw [if_neg h, if_pos g]
  exact ⟨e, by unfold encS; rw [e]; rfl⟩
theorem enc_fine {s : ByteArray} {z : Int} (h : ¬ (z < 1 ∨ 65536 < z)) (g : ¬ 65536 < s.size) : encF s z = 0 ∧ encS s z = mkS (encG (s.size + 1) z.toNat s.data.toList) := by
  have e : encF s z = 0 := by unfold encF; rw [if_neg h, if_neg g]
  exact ⟨e, by unfold encS; rw [if_pos e]⟩

theorem encG_end (m q : Nat) : encG m q [] = [48, 13, 10, 13, 10] := by cases m <;> simp [encG]
/-- One round. -/
theorem encG_step {m q n : Nat} {x : ByteArray} (hx : 1 ≤ x.size) (hq : 1 ≤ q) (hn : n = if q < x.size then q else x.size) :
    encG (m + 1) q x.data.toList = digs 16 n ++ 13 :: 10 :: ((x.extract 0 n).data.toList ++ 13 :: 10 :: encG m q (x.extract n x.size).data.toList) ∧ 1 ≤ n ∧ n ≤ x.size ∧ n ≤ q ∧ (x.extract 0 n).size = n ∧ (x.extract n x.size).size = x.size - n := by
  have hl : x.data.toList.length = x.size := (Lib.size_eq x).symm
  have hne : x.data.toList ≠ [] := by intro h; rw [h] at hl; simp at hl; omega
  have h1 : 1 ≤ n ∧ n ≤ x.size ∧ n ≤ q := by split at hn <;> omega
  have e1 : (x.extract 0 n).data.toList = x.data.toList.take q := by
    rw [piece_ext, mkS_list]
    show (x.data.toList.drop 0).take (n - 0) = _
    split at hn
    · rw [hn]; simp
    · rw [List.drop_zero, Nat.sub_zero, List.take_of_length_le (by omega), List.take_of_length_le (by omega)]
  have e2 : (x.extract n x.size).data.toList = x.data.toList.drop q := by
    rw [piece_ext, mkS_list]
    show (x.data.toList.drop n).take (x.size - n) = _
    rw [List.take_of_length_le (by rw [List.length_drop]; omega)]
    split at hn
    · rw [hn]
    · rw [List.drop_eq_nil_of_le (by omega), List.drop_eq_nil_of_le (by omega)]
  have e3 : min q x.data.toList.length = n := by rw [hl]; split at hn <;> omega
  refine ⟨?_, h1.1, h1.2.1, h1.2.2, by rw [ByteArray.size_extract]; omega, by rw [ByteArray.size_extract]; omega⟩
  rw [encG, if_neg hne, e1, e2, e3]
theorem crlf_list (o a b : ByteArray) : ((((o ++ a) ++ ⟨#[13, 10]⟩) ++ b) ++ ⟨#[13, 10]⟩).data.toList = o.data.toList ++ (a.data.toList ++ 13 :: 10 :: (b.data.toList ++ [13, 10])) := by
  rw [append_list, append_list, append_list, append_list]
  show o.data.toList ++ a.data.toList ++ [13, 10] ++ b.data.toList ++ [13, 10] = _
  simp [List.append_assoc]
theorem crlf_size (o a b : ByteArray) : (o ++ a).size = o.size + a.size ∧ ((o ++ a) ++ ⟨#[13, 10]⟩).size = o.size + a.size + 2 ∧ (((o ++ a) ++ ⟨#[13, 10]⟩) ++ b).size = o.size + a.size + 2 + b.size ∧ ((((o ++ a) ++ ⟨#[13, 10]⟩) ++ b) ++ ⟨#[13, 10]⟩).size = o.size + a.size + 2 + b.size + 2 := by
  have h : (⟨#[13, 10]⟩ : ByteArray).size = 2 := rfl
  refine ⟨by rw [ByteArray.size_append], by rw [ByteArray.size_append, ByteArray.size_append, h], by rw [ByteArray.size_append, ByteArray.size_append, ByteArray.size_append, h], by rw [ByteArray.size_append, ByteArray.size_append, ByteArray.size_append, ByteArray.size_append, h]⟩

end Go.Proofs.YtjcomlklmfeimaaGreatDoor
end

/-
  Plain facts of layer 11, without the program: what was encoded comes back, a part is none, what stands behind changes nothing.
-/
section
namespace Go.Proofs.YtjcomlklmfeimaaGreatDoor
open Go.RowKit

theorem trl_code : ∀ (m k : Nat) (l : List UInt8), (trl m k l).1 = 0 ∨ (trl m k l).1 = 4 ∨ (trl m k l).1 = 25
  | 0, _, _ => by simp [trl]
  | m + 1, k, l => by
    rw [trl]
    split
    · simp
    · split
      · simp
      · split
        · simp
        · split
          · simp
          · exact trl_code m _ _
theorem szE_code (s : ByteArray) : szE s = 0 ∨ szE s = 4 ∨ szE s = 25 := by
  unfold szE
  split
  · split <;> simp
  · simp
theorem dcd_code : ∀ (m : Nat) (b l : List UInt8), (dcd m b l).1 = 0 ∨ (dcd m b l).1 = 4 ∨ (dcd m b l).1 = 25
  | 0, _, _ => by simp [dcd]
  | m + 1, b, l => by
    rw [dcd]
    split
    · simp
    · split
      · exact szE_code _
      · split
        · exact trl_code _ _ _
        · split
          · simp
          · split
            · simp
            · exact dcd_code m _ _
theorem decE_code (s : ByteArray) : decE s = 0 ∨ decE s = 4 ∨ decE s = 25 := dcd_code _ _ _

/-- Another rest behind the first line. -/
theorem lineL_swap : ∀ {l ln r : List UInt8} (r' : List UInt8), lineL l = some (ln, r) → lineL (ln ++ 13 :: 10 :: r') = some (ln, r')
  | [], _, _, _, h => by cases h
  | [_], _, _, _, h => by cases h
  | c :: d :: t, ln, r, r', h => by
    by_cases e : c = 13 ∧ d = 10
    · rw [e.1, e.2, lineL_hit] at h
      cases h
      exact lineL_hit r'
    · rw [lineL_step e, Option.map_eq_some_iff] at h
      obtain ⟨⟨q, t2⟩, hp, he⟩ := h
      simp only [Prod.mk.injEq] at he
      obtain ⟨he1, he2⟩ := he
      have ih := lineL_swap r' hp
      have hf := lineL_form hp
      subst he1
      cases q with
      | nil =>
        show lineL (c :: 13 :: 10 :: r') = _
        rw [lineL_step (by simp), lineL_hit]; rfl
      | cons a q =>
        rw [List.cons_append] at hf
        have hd : d = a := (List.cons.inj hf).1
        rw [hd] at e
        show lineL (c :: a :: (q ++ 13 :: 10 :: r')) = _
        rw [lineL_step e]
        show (lineL (a :: q ++ 13 :: 10 :: r')).map _ = _
        rw [ih]; rfl
theorem lineL_line : ∀ (ln r : List UInt8), (∀ x ∈ ln, x ≠ 13) → lineL (ln ++ 13 :: 10 :: r) = some (ln, r)
  | [], r, _ => lineL_hit r
  | [c], r, h => by
    show lineL (c :: 13 :: 10 :: r) = _
    rw [lineL_step (by simp), lineL_hit]; rfl
  | c :: d :: t, r, h => by
    show lineL (c :: d :: (t ++ 13 :: 10 :: r)) = _
    rw [lineL_step (fun e => h c (by simp) e.1)]
    show (lineL (d :: t ++ 13 :: 10 :: r)).map _ = _
    rw [lineL_line (d :: t) r (fun x hx => h x (List.mem_cons_of_mem _ hx))]; rfl
/-- A part of a line has no end. -/
theorem lineL_part : ∀ (ln p : List UInt8), (∀ x ∈ ln, x ≠ 13) → p.length < ln.length + 2 → p <+: ln ++ [13, 10] → lineL p = none
  | _, [], _, _, _ => rfl
  | _, [_], _, _, _ => rfl
  | [], c :: d :: t, _, h, _ => by simp only [List.length_cons, List.length_nil] at h; omega
  | a :: ln, c :: d :: t, h, hl, hp => by
    rw [List.cons_append, List.cons_prefix_cons] at hp
    obtain ⟨rfl, hp⟩ := hp
    rw [lineL_step (fun e => h c (by simp) e.1)]
    rw [lineL_part ln (d :: t) (fun x hx => h x (List.mem_cons_of_mem _ hx)) (by simp at hl ⊢; omega) hp]; rfl

end Go.Proofs.YtjcomlklmfeimaaGreatDoor
end

/-
  Plain facts that the walks of package chunk lean on: the library's cut at a line's end, blanks trimmed at the end, a size under a lower bound.
-/
section
namespace Go.Proofs.YtjcomlklmfeimaaGreatDoor
open Go.RowKit

theorem index_crlf : ∀ l : List UInt8, Lib.index l [13, 10] = (match lineL l with | some p => (p.1.length : Int) | none => -1)
  | [] => rfl
  | [c] => by simp [Lib.index, lineL, List.isPrefixOf]
  | c :: d :: r => by
    by_cases e : c = 13 ∧ d = 10
    · rw [e.1, e.2, lineL_hit]
      simp [Lib.index, List.isPrefixOf]
    · have hp : [13, 10].isPrefixOf (c :: d :: r) = false := by
        simp only [List.isPrefixOf, Bool.and_true, Bool.and_eq_false_iff, beq_eq_false_iff_ne]
        by_cases h1 : c = 13
        · exact .inr (fun h => e ⟨h1, h.symm⟩)
        · exact .inl (fun h => h1 h.symm)
      rw [Lib.index, hp, index_crlf (d :: r), lineL_step e]
      cases lineL (d :: r) with
      | none => rfl
      | some p =>
        have : ((p.1.length : Int) == -1) = false := by rw [beq_eq_false_iff_ne]; omega
        simp [this]
theorem cut_crlf {l ln r : List UInt8} (h : lineL l = some (ln, r)) : Lib.cut l [13, 10] = (ln, r, true) := by
  have e := index_crlf l
  rw [h] at e
  have e' : Lib.index l [13, 10] = (ln.length : Int) := e
  unfold Lib.cut
  rw [e', if_pos (by omega), show ((ln.length : Int)).toNat = ln.length by omega, lineL_form h]
  simp
theorem cut_none {l : List UInt8} (h : lineL l = none) : Lib.cut l [13, 10] = (l, [], false) := by
  have e := index_crlf l
  rw [h] at e
  have e' : Lib.index l [13, 10] = -1 := e
  unfold Lib.cut
  rw [e', if_neg (by omega)]
theorem blk_set (c : UInt8) : ([32, 9] : List UInt8).contains c = blkU c := by
  have h : ∀ n : Nat, n < 256 → ([32, 9] : List UInt8).contains (UInt8.ofNat n) = blkB (n : Int) := by decide +kernel
  have := h c.toNat c.toNat_lt
  rwa [UInt8.ofNat_toNat] at this
theorem trim_blk (l : List UInt8) : Lib.trimRightS l [32, 9] = rdw l := by
  unfold Lib.trimRightS rdw
  congr 2
  funext c
  exact blk_set c
theorem cut_text (s : ByteArray) (c : Int) : (!cutOk s c || allB txtB (cutZ s c).data.toList) = allB txtB (cutZ s c).data.toList := by
  unfold cutOk cutZ
  by_cases h : idxOf s c = -1
  · rw [h]; rfl
  · rw [if_neg h]
    have : (idxOf s c == -1) = false := by rw [beq_eq_false_iff_ne]; exact h
    rw [this]; rfl

/-- A size under a lower bound. -/
theorem num_under (M : Int) (l : List UInt8) :
    (numE 16 15 1152921504606846976 l ≠ 0 ∧ numE 16 15 M l = 5 ∧ numN 16 15 M l = 0) ∨
    (numE 16 15 1152921504606846976 l = 0 ∧ M < numN 16 15 1152921504606846976 l ∧ numE 16 15 M l = 3 ∧ numN 16 15 M l = 0) ∨
    (numE 16 15 1152921504606846976 l = 0 ∧ numN 16 15 1152921504606846976 l ≤ M ∧ numE 16 15 M l = 0 ∧ numN 16 15 M l = numN 16 15 1152921504606846976 l) := by
  unfold numE numN
  by_cases h : l.length = 0 ∨ 15 < l.length ∨ allB (isD 16) l = false
  · left
    refine ⟨by rw [if_pos h]; decide, by rw [if_pos h], by rw [if_pos]; exact h.imp_right (fun x => x.imp_right .inl)⟩
  · right
    have h1 : ¬ l.length = 0 := fun e => h (.inl e)
    have h2 : ¬ 15 < l.length := fun e => h (.inr (.inl e))
    have h3 : ¬ allB (isD 16) l = false := fun e => h (.inr (.inr e))
    have hlt := valV_lt 16 l (by decide) (by simpa using h3)
    have hpow : 16 ^ l.length ≤ 16 ^ 15 := Nat.pow_le_pow_right (by decide) (by omega)
    have hT : ¬ (1152921504606846976 : Int) < valV 16 l := by
      have hlt' : valV 16 l < ((16 ^ l.length : Nat) : Int) := hlt
      have : ((16 ^ l.length : Nat) : Int) ≤ 1152921504606846976 := by
        have : ((16 ^ 15 : Nat) : Int) = 1152921504606846976 := by decide
        rw [← this]
        exact Int.ofNat_le.2 hpow
      omega
    rw [if_neg h, if_neg hT]
    have e1 : ¬ (l.length = 0 ∨ 15 < l.length ∨ allB (isD 16) l = false ∨ 1152921504606846976 < valV 16 l) := by
      rintro (e | e | e | e)
      · exact h1 e
      · exact h2 e
      · exact h3 e
      · exact hT e
    rw [if_neg e1]
    by_cases g : M < valV 16 l
    · left
      exact ⟨rfl, g, by rw [if_neg h, if_pos g], by rw [if_pos (.inr (.inr (.inr g)))]⟩
    · right
      refine ⟨rfl, by omega, by rw [if_neg h, if_neg g], ?_⟩
      rw [if_neg]
      rintro (e | e | e | e)
      · exact h1 e
      · exact h2 e
      · exact h3 e
      · exact g e

/-- What the reader says of a line when the body has b bytes: the size, the code. -/
def szQ (b : Nat) (s : ByteArray) : Int × Int := if szB s = false then (0, 25) else if 65536 - (b : Int) < szV s then (0, 4) else (szV s, 0)
theorem szQ_bad {b : Nat} {s : ByteArray} (h : szB s = false) : szQ b s = (0, 25) := by simp [szQ, h]
theorem szQ_big {b : Nat} {s : ByteArray} (h : szB s = true) (g : 65536 - (b : Int) < szV s) : szQ b s = (0, 4) := by simp [szQ, h, g]
theorem szQ_ok {b : Nat} {s : ByteArray} (h : szB s = true) (g : ¬ 65536 - (b : Int) < szV s) : szQ b s = (szV s, 0) := by simp [szQ, h, g]

end Go.Proofs.YtjcomlklmfeimaaGreatDoor
end

/-
  Plain facts of one round of the chunks' reader: a line and what stands behind it.
-/
section
namespace Go.Proofs.YtjcomlklmfeimaaGreatDoor
open Go.RowKit

/-- What the chunks come to when the last one's line has been read. -/
def lastD (X : List UInt8) (t : List UInt8) : Int × List UInt8 × List UInt8 := ((trl (t.length + 1) 0 t).1, (if (trl (t.length + 1) 0 t).1 = 0 then X else []), (trl (t.length + 1) 0 t).2)

theorem trl_le : ∀ (m k : Nat) (l : List UInt8), (trl m k l).2.length ≤ l.length
  | 0, _, _ => Nat.le_refl _
  | m + 1, k, l => by
    rw [trl]
    cases hl : lineL l with
    | none => exact Nat.le_refl _
    | some p =>
      obtain ⟨ln, r⟩ := p
      have hr : r.length ≤ l.length := by
        have := congrArg List.length (lineL_form hl)
        rw [List.length_append, List.length_cons, List.length_cons] at this
        omega
      simp only []
      split
      · exact hr
      · split
        · exact Nat.le_refl _
        · split
          · exact Nat.le_refl _
          · exact Nat.le_trans (trl_le m _ r) hr

theorem end_ok {r : List UInt8} {n : Nat} (h : ¬ (r.length < n + 2 ∨ r[n]? ≠ some 13 ∨ r[n + 1]? ≠ some 10)) : n ≤ r.length ∧ lineL (r.drop n) = some ([], r.drop (n + 2)) := by
  have h1 : n + 2 ≤ r.length := by
    rcases Nat.lt_or_ge r.length (n + 2) with g | g
    · exact absurd (.inl g) h
    · exact g
  have h2 : r[n]? = some 13 := Classical.byContradiction fun g => h (.inr (.inl g))
  have h3 : r[n + 1]? = some 10 := Classical.byContradiction fun g => h (.inr (.inr g))
  refine ⟨by omega, ?_⟩
  rw [List.getElem?_eq_getElem (by omega), Option.some.injEq] at h2 h3
  rw [List.drop_eq_getElem_cons (by omega), List.drop_eq_getElem_cons (i := n + 1) (by omega), h2, h3]
  exact lineL_hit _
theorem end_bad {r : List UInt8} {n : Nat} (h : r.length < n + 2 ∨ r[n]? ≠ some 13 ∨ r[n + 1]? ≠ some 10) : r.length < n ∨ n ≤ r.length ∧ (lineL (r.drop n) = none ∨ ∃ ln t, lineL (r.drop n) = some (ln, t) ∧ ln ≠ []) := by
  rcases Nat.lt_or_ge r.length n with g | g
  · exact .inl g
  · refine .inr ⟨g, ?_⟩
    cases hl : lineL (r.drop n) with
    | none => exact .inl rfl
    | some p =>
      obtain ⟨ln, t⟩ := p
      refine .inr ⟨ln, t, rfl, ?_⟩
      rintro rfl
      have hf := lineL_form hl
      have h0 : r[n]? = some 13 := by
        have := congrArg (fun x : List UInt8 => x[0]?) hf
        simpa using this
      have h1 : r[n + 1]? = some 10 := by
        have := congrArg (fun x : List UInt8 => x[1]?) hf
        simpa using this
      have hlen := congrArg List.length hf
      rw [List.length_drop, List.nil_append, List.length_cons, List.length_cons] at hlen
      rcases h with h | h | h
      · omega
      · exact h h0
      · exact h h1

/-- One round: what the line says, and what the chunks come to. -/
theorem round_cases {l ln r X : List UInt8} (F : Nat) (hl : lineL l = some (ln, r)) (hX : X.length ≤ 65536) :
    (∃ c, szQ X.length (mkS ln) = (0, c) ∧ c ≠ 0 ∧ dcd (F + 1) X l = (c, [], l)) ∨
    (szQ X.length (mkS ln) = (0, 0) ∧ dcd (F + 1) X l = lastD X r) ∨
    (∃ n : Nat, szQ X.length (mkS ln) = ((n : Int), 0) ∧ 0 < n ∧ n + X.length ≤ 65536 ∧ (r.length < n ∨ n ≤ r.length ∧ (lineL (r.drop n) = none ∨ ∃ ln t, lineL (r.drop n) = some (ln, t) ∧ ln ≠ [])) ∧ dcd (F + 1) X l = (25, [], l)) ∨
    (∃ n : Nat, szQ X.length (mkS ln) = ((n : Int), 0) ∧ 0 < n ∧ n + X.length ≤ 65536 ∧ n ≤ r.length ∧ lineL (r.drop n) = some ([], r.drop (n + 2)) ∧ dcd (F + 1) X l = dcd F (X ++ r.take n) (r.drop (n + 2))) := by
  have hd : dcd (F + 1) X l = if szE (mkS ln) ≠ 0 then (szE (mkS ln), [], l) else if szN (mkS ln) = 0 then lastD X r
      else if 65536 < (X.length : Int) + szN (mkS ln) then (4, [], l)
      else if r.length < (szN (mkS ln)).toNat + 2 ∨ r[(szN (mkS ln)).toNat]? ≠ some 13 ∨ r[(szN (mkS ln)).toNat + 1]? ≠ some 10 then (25, [], l)
      else dcd F (X ++ r.take (szN (mkS ln)).toNat) (r.drop ((szN (mkS ln)).toNat + 2)) := by rw [dcd, hl]; rfl
  rw [hd]
  generalize mkS ln = LN at *
  clear hd hl
  have hv := szV_nn LN
  cases hb : szB LN with
  | false =>
    obtain ⟨e1, _⟩ := sz_bad hb
    exact .inl ⟨25, szQ_bad hb, by decide, by rw [e1, if_pos (by decide)]⟩
  | true =>
    by_cases g : 65536 - (X.length : Int) < szV LN
    · refine .inl ⟨4, szQ_big hb g, by decide, ?_⟩
      by_cases k : 65536 < szV LN
      · obtain ⟨e1, _⟩ := sz_big hb k
        rw [e1, if_pos (by decide)]
      · obtain ⟨e1, e2⟩ := sz_fine hb k
        rw [e1, e2, if_neg (by decide), if_neg (by omega), if_pos (by omega)]
    · obtain ⟨e1, e2⟩ := sz_fine hb (by omega)
      have eq := szQ_ok hb g
      rw [e1, e2, if_neg (by decide), eq]
      by_cases k : szV LN = 0
      · rw [if_pos k, k]
        exact .inr (.inl ⟨rfl, rfl⟩)
      · obtain ⟨n, hn⟩ : ∃ n : Nat, szV LN = n := ⟨(szV LN).toNat, by omega⟩
        rw [if_neg k, if_neg (by omega), hn, show ((n : Int)).toNat = n by omega]
        rw [hn] at g k
        by_cases b : r.length < n + 2 ∨ r[n]? ≠ some 13 ∨ r[n + 1]? ≠ some 10
        · rw [if_pos b]
          exact .inr (.inr (.inl ⟨n, rfl, by omega, by omega, end_bad b, rfl⟩))
        · rw [if_neg b]
          obtain ⟨b1, b2⟩ := end_ok b
          exact .inr (.inr (.inr ⟨n, rfl, by omega, by omega, b1, b2, rfl⟩))

end Go.Proofs.YtjcomlklmfeimaaGreatDoor
end

/-
  Plain facts of layer 11, without the program: what was encoded comes back, and a part of it is none.
-/
section
namespace Go.Proofs.YtjcomlklmfeimaaGreatDoor
open Go.RowKit

theorem hex_byte : ∀ k : Nat, k < 256 → isD 16 (k : Int) = true → k ≠ 13 ∧ (k : Int) ≠ 59 ∧ blkB (k : Int) = false := by decide +kernel
theorem digs_bytes (n : Nat) : ∀ x ∈ digs 16 n, x ≠ 13 ∧ (x.toNat : Int) ≠ 59 ∧ blkU x = false := by
  intro x hx
  have h := (digs_val 16 n (by omega) (by omega)).2
  unfold allB at h
  rw [List.all_eq_true] at h
  obtain ⟨a, b, c⟩ := hex_byte x.toNat (by have := UInt8.toNat_lt x; omega) (h x hx)
  exact ⟨fun e => a (by rw [e]; rfl), b, c⟩
theorem rdw_id {l : List UInt8} (h : ∀ x ∈ l, blkU x = false) : rdw l = l := by
  unfold rdw
  have hr : ∀ x ∈ l.reverse, blkU x = false := fun x hx => h x (List.mem_reverse.1 hx)
  have : l.reverse.dropWhile blkU = l.reverse := by
    cases hl : l.reverse with
    | nil => rfl
    | cons a t =>
      rw [hl] at hr
      exact List.dropWhile_cons_of_neg (by rw [hr a (by simp)]; simp)
  rw [this, List.reverse_reverse]
theorem size_reads (n : Nat) (hn : n ≤ 65536) : szE (mkS (digs 16 n)) = 0 ∧ szN (mkS (digs 16 n)) = n := by
  have hb := digs_bytes n
  obtain ⟨v1, v2'⟩ := digs_val 16 n (by omega) (by omega)
  have v2 : allB (isD 16) (digs 16 n) = true := v2'
  have hl := digs_len 16 4 n (by omega) (by have hp : (65536 : Nat) < 16 ^ (4 + 1) := by decide
                                            omega)
  have hp := digs_pos 16 n
  have hi : idxOf (mkS (digs 16 n)) 59 = -1 := by
    refine idx_none _ _ (by decide) (by decide) ?_
    intro k hk
    have hm : (mkS (digs 16 n))[k] ∈ digs 16 n := by
      have h := drop_at (mkS (digs 16 n)) k hk
      rw [mkS_list] at h
      exact List.mem_of_mem_drop (i := k) (by rw [h]; simp)
    exact (hb _ hm).2.1
  obtain ⟨c1, c2, c3⟩ := cut_miss hi
  have hL : szL (mkS (digs 16 n)) = digs 16 n := by
    unfold szL
    rw [c1, mkS_list]
    exact rdw_id fun x hx => (hb x hx).2.2
  have h5 : ¬ ((digs 16 n).length = 0 ∨ 15 < (digs 16 n).length ∨ allB (isD 16) (digs 16 n) = false) := by
    rw [v2]; rintro (h | h | h)
    · omega
    · omega
    · cases h
  have h6 : ¬ ((digs 16 n).length = 0 ∨ 15 < (digs 16 n).length ∨ allB (isD 16) (digs 16 n) = false ∨ (1152921504606846976 : Int) < valV 16 (digs 16 n)) := by
    rw [v2, show valV 16 (digs 16 n) = (n : Int) from v1]; rintro (h | h | h | h)
    · omega
    · omega
    · cases h
    · omega
  have v1' : valV 16 (digs 16 n) = (n : Int) := v1
  have hV : szV (mkS (digs 16 n)) = n := by
    unfold szV numN
    rw [hL, if_neg h6, v1']
  have hB : szB (mkS (digs 16 n)) = true := by
    unfold szB numE
    rw [hL, if_neg h5, if_neg (by rw [v1']; omega), c3]
    rfl
  obtain ⟨q1, q2⟩ := sz_fine hB (by rw [hV]; omega)
  exact ⟨q1, by rw [q2, hV]⟩
theorem digs_zero : digs 16 0 = [48] := by rw [digs_small (by omega)]; rfl

theorem dcd_one (m : Nat) (b ch rest : List UInt8) (n : Nat) (hn : ch.length = n) (h1 : 1 ≤ n) (h2 : b.length + n ≤ 65536) :
    dcd (m + 1) b (digs 16 n ++ 13 :: 10 :: (ch ++ 13 :: 10 :: rest)) = dcd m (b ++ ch) rest := by
  obtain ⟨e1, e2⟩ := size_reads n (by omega)
  rw [dcd, lineL_line _ _ (fun x hx => (digs_bytes n x hx).1)]
  show (if szE (mkS (digs 16 n)) ≠ 0 then _ else _) = _
  rw [e1, e2, if_neg (by simp), if_neg (by omega), if_neg (by omega), Int.toNat_natCast]
  have g1 : (ch ++ 13 :: 10 :: rest)[n]? = some 13 := by rw [List.getElem?_append_right (by omega), hn, Nat.sub_self]; rfl
  have g2 : (ch ++ 13 :: 10 :: rest)[n + 1]? = some 10 := by rw [List.getElem?_append_right (by omega), hn, show n + 1 - n = 1 by omega]; rfl
  rw [if_neg (by rw [g1, g2]; simp; omega)]
  have g3 : (ch ++ 13 :: 10 :: rest).take n = ch := by rw [← hn]; exact List.take_left
  have g4 : (ch ++ 13 :: 10 :: rest).drop (n + 2) = rest := by
    rw [List.drop_append, hn, List.drop_eq_nil_of_le (by omega), show n + 2 - n = 2 by omega]; rfl
  rw [g3, g4]
theorem dcd_end (m : Nat) (b more : List UInt8) : dcd (m + 1) b ([48, 13, 10, 13, 10] ++ more) = (0, b, more) := by
  obtain ⟨e1, e2⟩ := size_reads 0 (by omega)
  rw [digs_zero] at e1 e2
  have e := lineL_line [48] (13 :: 10 :: more) (by simp)
  have hh : ([48, 13, 10, 13, 10] ++ more : List UInt8) = [48] ++ 13 :: 10 :: (13 :: 10 :: more) := rfl
  rw [hh, dcd, e]
  show (if szE (mkS [48]) ≠ 0 then _ else _) = _
  rw [e1, e2, if_neg (by simp), if_pos (by rfl), trl, lineL_hit]
  rfl
theorem encG_more {m q : Nat} {l : List UInt8} (h : l ≠ []) : encG (m + 1) q l = digs 16 (min q l.length) ++ 13 :: 10 :: (l.take q ++ 13 :: 10 :: encG m q (l.drop q)) := by rw [encG, if_neg h]
theorem dcd_enc : ∀ (k q : Nat) (l : List UInt8) (m : Nat) (b more : List UInt8), 1 ≤ q → l.length + 1 ≤ k → l.length + 1 ≤ m → b.length + l.length ≤ 65536 → dcd m b (encG k q l ++ more) = (0, b ++ l, more)
  | 0, _, _, _, _, _, _, hk, _, _ => by omega
  | k + 1, q, l, 0, b, more, _, _, hm, _ => by omega
  | k + 1, q, l, m + 1, b, more, hq, hk, hm, hb => by
    by_cases h : l = []
    · rw [h, encG_end, dcd_end, List.append_nil]
    · have hp : 0 < l.length := List.length_pos_iff.mpr h
      rw [encG_more h, List.append_assoc, List.cons_append, List.cons_append, List.append_assoc, List.cons_append, List.cons_append, dcd_one m b (l.take q) _ _ (by rw [List.length_take]) (by omega) (by omega),
        dcd_enc k q (l.drop q) m (b ++ l.take q) more hq (by rw [List.length_drop]; omega) (by rw [List.length_drop]; omega) (by rw [List.length_append, List.length_take, List.length_drop]; omega), List.append_assoc, List.take_append_drop]
theorem encG_len : ∀ (k q : Nat) (l : List UInt8), 1 ≤ q → l.length + 1 ≤ k → l.length ≤ 65536 → l.length + 5 ≤ (encG k q l).length ∧ (encG k q l).length ≤ 10 * l.length + 5
  | 0, _, _, _, hk, _ => by omega
  | k + 1, q, l, hq, hk, hb => by
    by_cases h : l = []
    · rw [h, encG_end]; simp
    · have hp : 0 < l.length := List.length_pos_iff.mpr h
      obtain ⟨i1, i2⟩ := encG_len k q (l.drop q) hq (by rw [List.length_drop]; omega) (by rw [List.length_drop]; omega)
      have hl := digs_len 16 4 (min q l.length) (by omega) (by have hp : (65536 : Nat) < 16 ^ (4 + 1) := by decide
                                                               omega)
      have hd := digs_pos 16 (min q l.length)
      rw [List.length_drop] at i1 i2
      rw [encG_more h, List.length_append, List.length_cons, List.length_cons, List.length_append, List.length_cons, List.length_cons, List.length_take]
      omega
theorem none_25 {m : Nat} {b p : List UInt8} (h : lineL p = none) : (dcd m b p).1 = 25 := by
  cases m with
  | zero => rfl
  | succ m => rw [dcd, h]

theorem take_five {j : Nat} (hj : j < 5) (m : Nat) (b : List UInt8) : (dcd m b (([48, 13, 10, 13, 10] : List UInt8).take j)).1 = 25 := by
  obtain ⟨e1, e2⟩ := size_reads 0 (by omega)
  rw [digs_zero] at e1 e2
  cases m with
  | zero => rfl
  | succ m =>
    rcases (by omega : j = 0 ∨ j = 1 ∨ j = 2 ∨ j = 3 ∨ j = 4) with h | h | h | h | h
    · rw [h]; exact none_25 rfl
    · rw [h]; exact none_25 rfl
    · rw [h]; exact none_25 rfl
    · rw [h, show ([48, 13, 10, 13, 10] : List UInt8).take 3 = [48] ++ 13 :: 10 :: [] from rfl, dcd, lineL_line [48] [] (by simp)]
      show (if szE (mkS [48]) ≠ 0 then _ else _ : Int × List UInt8 × List UInt8).1 = _
      rw [e1, e2, if_neg (by simp), if_pos (by rfl)]
      rfl
    · rw [h, show ([48, 13, 10, 13, 10] : List UInt8).take 4 = [48] ++ 13 :: 10 :: [13] from rfl, dcd, lineL_line [48] [13] (by simp)]
      show (if szE (mkS [48]) ≠ 0 then _ else _ : Int × List UInt8 × List UInt8).1 = _
      rw [e1, e2, if_neg (by simp), if_pos (by rfl)]
      rfl
theorem dcd_part : ∀ (k q : Nat) (l : List UInt8) (m : Nat) (b p : List UInt8), 1 ≤ q → l.length + 1 ≤ k → b.length + l.length ≤ 65536 → p <+: encG k q l → p.length < (encG k q l).length → (dcd m b p).1 = 25
  | 0, _, _, _, _, _, _, hk, _, _, _ => by omega
  | k + 1, q, l, 0, b, p, _, _, _, _, _ => rfl
  | k + 1, q, l, m + 1, b, p, hq, hk, hb, hp, hlt => by
    by_cases h : l = []
    · rw [h, encG_end] at hp hlt
      rw [List.prefix_iff_eq_take.1 hp]
      exact take_five (by simpa using hlt) _ _
    · have hpos : 0 < l.length := List.length_pos_iff.mpr h
      rw [encG_more h] at hp hlt
      have hn1 : 1 ≤ min q l.length := by omega
      have hn2 : b.length + min q l.length ≤ 65536 := by omega
      have hch : (l.take q).length = min q l.length := by rw [List.length_take]
      have IH := fun r hr hl => dcd_part k q (l.drop q) m (b ++ l.take q) r hq (by rw [List.length_drop]; omega) (by rw [List.length_append, List.length_take, List.length_drop]; omega) hr hl
      generalize encG k q (l.drop q) = rest at *
      generalize l.take q = ch at *
      generalize min q l.length = n at *
      have hD := fun x hx => (digs_bytes n x hx).1
      obtain ⟨e1, e2⟩ := size_reads n (by omega)
      have one := dcd_one m b ch
      generalize hDs : digs 16 n = ds at *
      by_cases hs : p.length < ds.length + 2
      · refine none_25 (lineL_part ds p hD hs (List.prefix_of_prefix_length_le hp (l₂ := ds ++ [13, 10]) ?_ ?_))
        · exact ⟨ch ++ 13 :: 10 :: rest, by simp⟩
        · simp; omega
      · obtain ⟨p2, rfl⟩ : ds ++ [13, 10] <+: p := List.prefix_of_prefix_length_le (l₃ := ds ++ 13 :: 10 :: (ch ++ 13 :: 10 :: rest)) ⟨ch ++ 13 :: 10 :: rest, by simp⟩ hp (by simp; omega)
        have hp2 : p2 <+: ch ++ 13 :: 10 :: rest := by
          have : (ds ++ [13, 10]) ++ p2 <+: (ds ++ [13, 10]) ++ (ch ++ 13 :: 10 :: rest) := by simpa using hp
          exact (List.prefix_append_right_inj _).1 this
        have hl2 : p2.length < (ch ++ 13 :: 10 :: rest).length := by simp at hlt ⊢; omega
        by_cases hs2 : p2.length < n + 2
        · rw [show ds ++ [13, 10] ++ p2 = ds ++ 13 :: 10 :: p2 by simp, dcd, lineL_line _ _ hD]
          show (if szE (mkS ds) ≠ 0 then _ else _ : Int × List UInt8 × List UInt8).1 = _
          rw [e1, e2, if_neg (by simp), if_neg (by omega), if_neg (by omega), Int.toNat_natCast, if_pos (Or.inl hs2)]
        · obtain ⟨p3, rfl⟩ : ch ++ [13, 10] <+: p2 := List.prefix_of_prefix_length_le (l₃ := ch ++ 13 :: 10 :: rest) ⟨rest, by simp⟩ hp2 (by simp; omega)
          have hp3 : p3 <+: rest := by
            have : (ch ++ [13, 10]) ++ p3 <+: (ch ++ [13, 10]) ++ rest := by simpa using hp2
            exact (List.prefix_append_right_inj _).1 this
          have hl3 : p3.length < rest.length := by simp at hl2 ⊢; omega
          have e := one p3 n hch hn1 hn2
          rw [hDs] at e
          rw [show ds ++ [13, 10] ++ (ch ++ [13, 10] ++ p3) = ds ++ 13 :: 10 :: (ch ++ 13 :: 10 :: p3) by simp, e]
          exact IH p3 hp3 hl3

end Go.Proofs.YtjcomlklmfeimaaGreatDoor
end

/-
  Layer 11, without the program: Encode's chunks and Decode.
-/
section
namespace Go.Proofs.YtjcomlklmfeimaaGreatDoor
open Go.RowKit

theorem enc_back {s : ByteArray} {z : Int} (h : ¬ (z < 1 ∨ 65536 < z)) (g : s.size ≤ 65536) :
    encF s z = 0 ∧ s.size + 5 ≤ (encS s z).size ∧ (encS s z).size ≤ 10 * s.size + 5 ∧
    (∀ more : ByteArray, decB (encS s z ++ more) = s ∧ decN (encS s z ++ more) = (encS s z).size ∧ decE (encS s z ++ more) = 0) ∧
    (∀ k : Nat, k < (encS s z).size → decB ((encS s z).extract 0 k) = ⟨#[]⟩ ∧ decN ((encS s z).extract 0 k) = 0 ∧ decE ((encS s z).extract 0 k) = 25) := by
  obtain ⟨e1, e2⟩ := enc_fine (s := s) h (by omega)
  have hl : s.data.toList.length = s.size := (Lib.size_eq s).symm
  obtain ⟨l1, l2⟩ := encG_len (s.size + 1) z.toNat s.data.toList (by omega) (by omega) (by omega)
  have hE := fun (m : Nat) (more : List UInt8) (hm : s.data.toList.length + 1 ≤ m) => dcd_enc (s.size + 1) z.toNat s.data.toList m [] more (by omega) (by omega) hm (by simp; omega)
  have hP := fun (m : Nat) (p : List UInt8) hp hlt => dcd_part (s.size + 1) z.toNat s.data.toList m [] p (by omega) (by omega) (by simp; omega) hp hlt
  rw [e2]
  generalize encG (s.size + 1) z.toNat s.data.toList = G at *
  have hG : (mkS G).size = G.length := mkS_size G
  refine ⟨e1, by omega, by omega, ?_, ?_⟩
  · intro more
    have hd : decD (mkS G ++ more) = (0, s.data.toList, more.data.toList) := by
      unfold decD
      rw [append_list, mkS_list, hE _ _ (by rw [ByteArray.size_append]; omega)]
      rfl
    obtain ⟨q1, q2, q3⟩ := dec_ok hd
    refine ⟨by rw [q1]; exact (mkS_eq rfl).symm, ?_, q3⟩
    rw [q2, ByteArray.size_append, ← Lib.size_eq]
    omega
  · intro k hk
    have hx : ((mkS G).extract 0 k).data.toList = G.take k := by
      rw [piece_ext, mkS_list]
      show ((mkS G).data.toList.drop 0).take (k - 0) = _
      rw [mkS_list]; simp
    have hc : (decD ((mkS G).extract 0 k)).1 = 25 := by
      unfold decD
      rw [hx]
      exact hP _ _ (List.take_prefix _ _) (by rw [List.length_take]; omega)
    exact dec_bad (x := (decD ((mkS G).extract 0 k)).2.1) (y := (decD ((mkS G).extract 0 k)).2.2) (by rw [← hc]) (by decide)

end Go.Proofs.YtjcomlklmfeimaaGreatDoor
end

/-
  Layer 11, without the program: what stands behind the chunks changes nothing.
-/
section
namespace Go.Proofs.YtjcomlklmfeimaaGreatDoor
open Go.RowKit

theorem trl_again : ∀ (m k : Nat) (l y : List UInt8), trl m k l = (0, y) → ∃ p, l = p ++ y ∧ 2 ≤ p.length ∧ ∀ (more : List UInt8) (m' : Nat), p.length + 1 ≤ m' → trl m' k (p ++ more) = (0, more)
  | 0, _, _, _, h => by simp [trl] at h
  | m + 1, k, l, y, h => by
    rw [trl] at h
    cases hl : lineL l with
    | none => rw [hl] at h; simp at h
    | some q =>
      obtain ⟨ln, r⟩ := q
      have hf := lineL_form hl
      rw [hl] at h
      simp only at h
      by_cases hn : ln = []
      · rw [if_pos hn] at h
        simp only [Prod.mk.injEq, true_and] at h
        refine ⟨[13, 10], by rw [hf, hn, h]; rfl, by simp, ?_⟩
        intro more m' hm
        obtain ⟨m2, rfl⟩ : ∃ m2, m' = m2 + 1 := ⟨m' - 1, by omega⟩
        show trl (m2 + 1) k (13 :: 10 :: more) = _
        rw [trl, lineL_hit]
        simp
      · rw [if_neg hn] at h
        by_cases hx : flX (mkS ln) = 0
        · rw [if_neg (by simpa using hx)] at h
          by_cases hk : 64 ≤ k
          · rw [if_pos hk] at h; simp at h
          · rw [if_neg hk] at h
            obtain ⟨p, e1, e2, e3⟩ := trl_again m (k + 1) r y h
            refine ⟨ln ++ 13 :: 10 :: p, by rw [hf, e1]; simp, by simp; omega, ?_⟩
            intro more m' hm
            obtain ⟨m2, rfl⟩ : ∃ m2, m' = m2 + 1 := ⟨m' - 1, by omega⟩
            have hs := lineL_swap (p ++ more) hl
            rw [show ln ++ 13 :: 10 :: p ++ more = ln ++ 13 :: 10 :: (p ++ more) by simp, trl, hs]
            simp only
            rw [if_neg hn, if_neg (by simpa using hx), if_neg hk]
            exact e3 more m2 (by simp at hm; omega)
        · rw [if_pos hx] at h; simp at h
theorem dcd_again : ∀ (m : Nat) (b l x y : List UInt8), dcd m b l = (0, x, y) → ∃ p, l = p ++ y ∧ x.length + 5 ≤ b.length + p.length ∧ ∀ (more : List UInt8) (m' : Nat), p.length + 1 ≤ m' → dcd m' b (p ++ more) = (0, x, more)
  | 0, _, _, _, _, h => by simp [dcd] at h
  | m + 1, b, l, x, y, h => by
    rw [dcd] at h
    cases hl : lineL l with
    | none => rw [hl] at h; simp at h
    | some q =>
      obtain ⟨ln, r⟩ := q
      have hf := lineL_form hl
      rw [hl] at h
      simp only at h
      have hnil : szE (mkS ln) = 0 → ln ≠ [] := by
        intro h0 e
        rw [e] at h0
        exact absurd h0 (by decide +kernel)
      by_cases hz : szE (mkS ln) = 0
      · have hpos : 0 < ln.length := List.length_pos_iff.mpr (hnil hz)
        rw [if_neg (by simpa using hz)] at h
        by_cases hn : szN (mkS ln) = 0
        · rw [if_pos hn] at h
          simp only [Prod.mk.injEq] at h
          obtain ⟨t1, t2, t3⟩ := h
          rw [if_pos t1] at t2
          obtain ⟨p, e1, e2, e3⟩ := trl_again (r.length + 1) 0 r y (by rw [← t1, ← t3])
          refine ⟨ln ++ 13 :: 10 :: p, by rw [hf, e1]; simp, by rw [t2]; simp; omega, ?_⟩
          intro more m' hm
          obtain ⟨m2, rfl⟩ : ∃ m2, m' = m2 + 1 := ⟨m' - 1, by omega⟩
          have hs := lineL_swap (p ++ more) hl
          rw [show ln ++ 13 :: 10 :: p ++ more = ln ++ 13 :: 10 :: (p ++ more) by simp, dcd, hs]
          simp only
          rw [if_neg (by simpa using hz), if_pos hn, e3 more _ (by simp only [List.length_append]; omega)]
          simp [t2]
        · rw [if_neg hn] at h
          by_cases hb : 65536 < (b.length : Int) + szN (mkS ln)
          · rw [if_pos hb] at h; simp at h
          · rw [if_neg hb] at h
            generalize hN : (szN (mkS ln)).toNat = n at *
            by_cases hc : r.length < n + 2 ∨ r[n]? ≠ some 13 ∨ r[n + 1]? ≠ some 10
            · rw [if_pos hc] at h; simp at h
            · rw [if_neg hc] at h
              obtain ⟨p, e1, e2, e3⟩ := dcd_again m (b ++ r.take n) (r.drop (n + 2)) x y h
              have hrl : n + 2 ≤ r.length := by
                apply Nat.le_of_not_lt
                intro hx
                exact hc (Or.inl hx)
              have hr : r = r.take (n + 2) ++ (p ++ y) := by rw [← e1, List.take_append_drop]
              have htl : (r.take (n + 2)).length = n + 2 := by rw [List.length_take]; omega
              refine ⟨ln ++ 13 :: 10 :: (r.take (n + 2) ++ p), ?_, ?_, ?_⟩
              · rw [hf]
                conv => lhs; rw [hr]
                simp
              · simp only [List.length_append, List.length_cons, htl, List.length_take] at e2 ⊢
                omega
              · intro more m' hm
                obtain ⟨m2, rfl⟩ : ∃ m2, m' = m2 + 1 := ⟨m' - 1, by omega⟩
                have hs := lineL_swap (r.take (n + 2) ++ (p ++ more)) hl
                rw [show ln ++ 13 :: 10 :: (r.take (n + 2) ++ p) ++ more = ln ++ 13 :: 10 :: (r.take (n + 2) ++ (p ++ more)) by simp, dcd, hs]
                simp only
                have g1 : (r.take (n + 2) ++ (p ++ more))[n]? = r[n]? := by rw [List.getElem?_append_left (by omega), List.getElem?_take, if_pos (by omega)]
                have g2 : (r.take (n + 2) ++ (p ++ more))[n + 1]? = r[n + 1]? := by rw [List.getElem?_append_left (by omega), List.getElem?_take, if_pos (by omega)]
                have g3 : (r.take (n + 2) ++ (p ++ more)).take n = r.take n := by rw [List.take_append_of_le_length (by omega), List.take_take, show min n (n + 2) = n by omega]
                have g4 : (r.take (n + 2) ++ (p ++ more)).drop (n + 2) = p ++ more := by rw [List.drop_append, htl, List.drop_eq_nil_of_le (by omega), Nat.sub_self]; rfl
                have hc2 : ¬ ((r.take (n + 2) ++ (p ++ more)).length < n + 2 ∨ (r.take (n + 2) ++ (p ++ more))[n]? ≠ some 13 ∨ (r.take (n + 2) ++ (p ++ more))[n + 1]? ≠ some 10) := by
                  rw [g1, g2]
                  rintro (hx | hx)
                  · rw [List.length_append, htl] at hx; omega
                  · exact hc (Or.inr hx)
                rw [if_neg (by simpa using hz), if_neg hn, if_neg hb, hN, if_neg hc2, g3, g4]
                exact e3 more m2 (by simp only [List.length_append, List.length_cons, htl] at hm; omega)
      · rw [if_pos hz] at h
        simp only [Prod.mk.injEq] at h
        exact absurd h.1 hz
/-- P11.3. -/
theorem dec_again {s : ByteArray} (h : decE s = 0) : ∃ k : Nat, decN s = (k : Int) ∧ 5 ≤ k ∧ k ≤ s.size ∧ (decB s).size ≤ k ∧ ∀ more : ByteArray, decB (s.extract 0 k ++ more) = decB s ∧ decN (s.extract 0 k ++ more) = (k : Int) ∧ decE (s.extract 0 k ++ more) = 0 := by
  have hd : decD s = (0, (decD s).2.1, (decD s).2.2) := by rw [← show (decD s).1 = 0 from h]
  generalize (decD s).2.1 = x at hd
  generalize (decD s).2.2 = y at hd
  obtain ⟨q1, q2, q3⟩ := dec_ok hd
  obtain ⟨p, e1, e2, e3⟩ := dcd_again (s.size + 1) [] s.data.toList x y hd
  have hl := congrArg List.length e1
  rw [← Lib.size_eq, List.length_append] at hl
  simp only [List.length_nil] at e2
  refine ⟨p.length, by rw [q2]; omega, by omega, by omega, by rw [q1, mkS_size]; omega, ?_⟩
  intro more
  have hx : (s.extract 0 p.length).data.toList = p := by
    rw [piece_ext, mkS_list]
    show (s.data.toList.drop 0).take (p.length - 0) = _
    rw [e1]; simp
  have hx2 : (s.extract 0 p.length).size = p.length := by rw [ByteArray.size_extract]; omega
  have hd2 : decD (s.extract 0 p.length ++ more) = (0, x, more.data.toList) := by
    unfold decD
    rw [append_list, hx]
    exact e3 _ _ (by rw [ByteArray.size_append, hx2]; omega)
  obtain ⟨r1, r2, r3⟩ := dec_ok hd2
  refine ⟨by rw [r1, q1], ?_, r3⟩
  rw [r2, ByteArray.size_append, hx2, ← Lib.size_eq]
  omega

end Go.Proofs.YtjcomlklmfeimaaGreatDoor
end
