/-
  Texts that the laws of this seat lean on, one behind the other.
-/
import Derived.Test.YtfmaaghmbnhikaaGreatDoorMrgG
import Derived.Deep.SlicePairs
import Derived.ChangeArms
import Derived.Test.YtfmaaghmbnhikaaGreatDoorMrgA
import Derived.Test.YtfmaaghmbnhikaaGreatDoorMrgF
import Derived.Deep.AppendLies
/-
  Slices of structs of two strings (header fields): what a slice reads as, nil or not; rows of the call's own, and what is appended to them.
-/
section
namespace Go.Proofs.YtfmaaghmbnhikaaGreatDoor
open Go.RowKit Go.ChangeShapes Go.WideShapes

/-- A field: its name and its value. -/
abbrev Fd := ByteArray × ByteArray
/-- A field that no sum of sizes is too great for. -/
def Bd (x : Fd) : Prop := x.1.size ≤ 1000000000 ∧ x.2.size ≤ 1000000000
theorem Bd.one {x : Fd} (h : Bd x) : x.1.size ≤ maxLen := by have := h.1; unfold maxLen; omega
theorem Bd.two {x : Fd} (h : Bd x) : x.2.size ≤ maxLen := by have := h.2; unfold maxLen; omega
def fdV (x : Fd) : Value := .agg #[.string x.1, .string x.2]
def fdC (L : List Fd) : List Value := L.flatMap fun x => [.string x.1, .string x.2]
theorem fdC_nil : fdC [] = [] := rfl
theorem fdC_cons (x : Fd) (L : List Fd) : fdC (x :: L) = .string x.1 :: .string x.2 :: fdC L := rfl
theorem fdC_append (L M : List Fd) : fdC (L ++ M) = fdC L ++ fdC M := by simp [fdC]
theorem fdC_len : ∀ L : List Fd, (fdC L).length = L.length * 2
  | [] => rfl
  | x :: L => by rw [fdC_cons, List.length_cons, List.length_cons, fdC_len L, List.length_cons]; omega
theorem fdC_at : ∀ (L : List Fd) (j : Nat) (x : Fd), L[j]? = some x → (fdC L)[j * 2]? = some (.string x.1) ∧ (fdC L)[j * 2 + 1]? = some (.string x.2)
  | [], j, x, h => by simp at h
  | y :: L, 0, x, h => by
    simp only [List.getElem?_cons_zero, Option.some.injEq] at h
    subst h
    exact ⟨rfl, rfl⟩
  | y :: L, j + 1, x, h => by
    rw [List.getElem?_cons_succ] at h
    have := fdC_at L j x h
    rw [fdC_cons, show (j + 1) * 2 = j * 2 + 1 + 1 by omega, show j * 2 + 1 + 1 + 1 = (j * 2 + 1) + 1 + 1 by omega]
    simpa using this
theorem fdC_ones (L : List Fd) : ∀ u ∈ fdC L, u.oneCell' = true := fun u hu => by
  obtain ⟨x, _, hx⟩ := List.mem_flatMap.1 hu
  simp only [List.mem_cons, List.not_mem_nil, or_false] at hx
  rcases hx with rfl | rfl <;> rfl
theorem fdC_of (L : List Fd) (j : Nat) (u : Value) (h : (fdC L)[j]? = some u) : ∃ x, L[j / 2]? = some x ∧ ((j % 2 = 0 ∧ u = .string x.1) ∨ (j % 2 = 1 ∧ u = .string x.2)) := by
  have hj : j < (fdC L).length := (List.getElem?_eq_some_iff.1 h).1
  rw [fdC_len] at hj
  have hlt : j / 2 < L.length := by omega
  refine ⟨L[j / 2], List.getElem?_eq_getElem hlt, ?_⟩
  have hx := fdC_at L (j / 2) _ (List.getElem?_eq_getElem hlt)
  rcases Nat.mod_two_eq_zero_or_one j with e | e
  · rw [show j / 2 * 2 = j by omega, h] at hx
    exact .inl ⟨e, by simpa using hx.1⟩
  · rw [show j / 2 * 2 + 1 = j by omega, h] at hx
    exact .inr ⟨e, by simpa using hx.2⟩

/-- The slice of n fields at A, of capacity c, reads as L. -/
structure SlF (w : World) (A : Option Addr) (n c : Nat) (L : List Fd) : Prop where
  len : L.length = n
  cap : n ≤ c
  cm : c ≤ maxLen
  nil : A = none → c = 0
  at_ : 0 < n → ∃ ad, A = some ad ∧ ∀ j x, L[j]? = some x → w.cell? (ad.add (j * 2)) = some (.string x.1) ∧ w.cell? (ad.add (j * 2 + 1)) = some (.string x.2)
  sz : ∀ x ∈ L, x.1.size ≤ maxLen ∧ x.2.size ≤ maxLen

section
variable {w w' : World} {A : Option Addr} {n c : Nat} {L : List Fd}
theorem SlF.none_ (w : World) : SlF w none 0 0 [] := ⟨rfl, Nat.le_refl _, Nat.zero_le _, fun _ => rfl, fun h => absurd h (by omega), fun _ h => by cases h⟩
theorem SlF.none_eq (h : SlF w none n c L) : n = 0 ∧ c = 0 ∧ L = [] := by
  have h1 := h.nil rfl
  have h2 := h.cap
  have h3 := h.len
  exact ⟨by omega, h1, List.eq_nil_of_length_eq_zero (by omega)⟩
theorem SlF.keep (h : SlF w A n c L) (hk : ∀ a u, w.cell? a = some u → w'.cell? a = some u) : SlF w' A n c L :=
  ⟨h.len, h.cap, h.cm, h.nil, fun hn => by
    obtain ⟨ad, e, hc⟩ := h.at_ hn
    exact ⟨ad, e, fun j x hx => ⟨hk _ _ (hc j x hx).1, hk _ _ (hc j x hx).2⟩⟩, h.sz⟩
theorem SlF.below (h : SlF w A n c L) (hb : Below w.heap.size w w') : SlF w' A n c L := h.keep fun _ _ hu => cell_kept hb hu
theorem SlF.alloc (h : SlF w A n c L) (o : Obj) : SlF (w.alloc o) A n c L := h.keep fun _ _ hu => Lib.cell?_alloc_some o hu
theorem SlF.drew (h : SlF w A n c L) : SlF w.drew A n c L := ⟨h.len, h.cap, h.cm, h.nil, h.at_, h.sz⟩
theorem SlF.le (h : SlF w A n c L) : L.length ≤ maxLen := by have := h.len; have := h.cap; have := h.cm; omega
theorem SlF.cells {ad : Addr} (h : SlF w (some ad) n c L) : ∀ j x, L[j]? = some x → w.cell? (ad.add (j * 2)) = some (.string x.1) ∧ w.cell? (ad.add (j * 2 + 1)) = some (.string x.2) := fun j x hx => by
  have : j < L.length := (List.getElem?_eq_some_iff.1 hx).1
  obtain ⟨ad', e, hc⟩ := h.at_ (by have := h.len; omega)
  cases e
  exact hc j x hx
theorem SlF.news {ad : Addr} (h : SlF w (some ad) n c L) : ∀ j u, (fdC L)[j]? = some u → w.cell? (ad.add j) = some u := fun j u hu => by
  obtain ⟨x, hx, hj⟩ := fdC_of L j u hu
  have hc := h.cells _ x hx
  rcases hj with ⟨e, rfl⟩ | ⟨e, rfl⟩
  · rw [show j / 2 * 2 = j by omega] at hc; exact hc.1
  · rw [show j / 2 * 2 + 1 = j by omega] at hc; exact hc.2

theorem SlF.of_own {base e : Nat} {v : Value} (h : w.ownsRow base e 2 v n (fdC L)) (hz : ∀ x ∈ L, x.1.size ≤ maxLen ∧ x.2.size ≤ maxLen) : ∃ A c, v = .slice A n c ∧ SlF w A n c L := by
  have hl : L.length = n := by have := h.1; rw [fdC_len] at this; omega
  rcases h.2 with ⟨rfl, rfl⟩ | ⟨g, cap, cur, rfl, _, hg, hnc, hcm, hcs, ht⟩
  · obtain rfl : L = [] := List.eq_nil_of_length_eq_zero hl
    exact ⟨_, _, rfl, SlF.none_ w⟩
  · exact ⟨_, _, rfl, hl, hnc, hcm, (fun e => by cases e), (fun _ => ⟨_, rfl, fun j x hx => ⟨h.cells (g := g) rfl _ _ (fdC_at L j x hx).1, h.cells (g := g) rfl _ _ (fdC_at L j x hx).2⟩⟩), hz⟩

theorem SlF.of_trod {H : Type} {enc : TypeId × Value → H} {P : Program} {base : Nat} {held : Bool} {t e : TypeId} {f0 f1 : Field} {d : DataW H} {p : List MemPlace} (ht : P.underlying t = some (.slice e)) (he : P.underlying e = some (.struct #[f0, f1]))
    (ce : P.cellsOf e = 2) (o0 : f0.offset = 0) (o1 : f1.offset = 1) (c0 : P.cellsOf f0.type = 1) (c1 : P.cellsOf f1.type = 1) (i0 : P.underlying f0.type = some .string) (i1 : P.underlying f1.type = some .string)
    (h : DataW.Trod enc P w base (fun _ => true) held t (.slice A n c) d p) : ∃ L, SlF w A n c L := by
  obtain ⟨fuel, hf⟩ := h
  rcases Deep.open_slice_pairs ht he ce o0 o1 c0 c1 hf with ⟨hcs, _⟩ | ⟨a, len, cap, m, n', V0, V1, D0, D1, P0, P1, hcs, _, hl, hm, hmm, _, hx⟩
  · simp [Value.cells] at hcs
    obtain ⟨rfl, rfl, rfl⟩ := hcs
    exact ⟨[], SlF.none_ w⟩
  · simp [Value.cells] at hcs
    obtain ⟨rfl, rfl, rfl⟩ := hcs
    have hmc : n ≤ m := by rw [hmm]; simpa using hl
    have each : ∀ i, i < n → ∃ x : Fd, w.cell? (a.add (i * 2)) = some (.string x.1) ∧ w.cell? (a.add (i * 2 + 1)) = some (.string x.2) ∧ x.1.size ≤ maxLen ∧ x.2.size ≤ maxLen := fun i hi => by
      obtain ⟨h1, h2, h3, h4⟩ := hx i (by omega)
      obtain ⟨k0, e0, _, w0⟩ := DataW.trod_string i0 h3
      obtain ⟨k1, e1, _, w1⟩ := DataW.trod_string i1 h4
      simp only [List.cons.injEq, and_true] at e0 e1
      exact ⟨(k0, k1), by rw [h1, e0], by rw [h2, e1], w0, w1⟩
    obtain ⟨q, hq⟩ := Deep.choose_lt each
    refine ⟨(List.range n).map q, by simp, hl, hm, (fun e => by cases e), fun _ => ⟨a, rfl, fun j x hj => ?_⟩, fun x hx => ?_⟩
    · rw [List.getElem?_map, Option.map_eq_some_iff] at hj
      obtain ⟨i, hi, rfl⟩ := hj
      obtain ⟨h1, h2⟩ := List.getElem?_eq_some_iff.1 hi
      simp only [List.length_range, List.getElem_range] at h1 h2
      subst h2
      exact ⟨(hq j h1).1, (hq j h1).2.1⟩
    · obtain ⟨i, hi, rfl⟩ := List.mem_map.1 hx
      exact (hq i (List.mem_range.1 hi)).2.2
end

/-- The second cell of a field, as a load asks for it. -/
theorem fd_snd {w : World} {ad : Addr} {k : Nat} {v : Value} (h : w.cell? (ad.add (k * 2 + 1)) = some v) : w.cell? { block := (ad.add (k * 2)).block, off := (ad.add (k * 2)).off + 1 } = some v := by
  rw [← Go.Addr.add_add] at h
  rwa [Addr.add_succ'] at h

/-- A block of one field. -/
theorem SlF.one (w : World) (t : TypeId) (x : Fd) (hz : x.1.size ≤ maxLen ∧ x.2.size ≤ maxLen) : SlF (w.alloc (.cells #[.string x.1, .string x.2] t)) (some ⟨w.heap.size, 0, none⟩) 1 1 [x] := by
  refine ⟨rfl, Nat.le_refl _, by decide, (fun e => by cases e), fun _ => ⟨_, rfl, fun j y hy => ?_⟩, fun y hy => ?_⟩
  · rcases j with _ | j
    · simp only [List.getElem?_cons_zero, Option.some.injEq] at hy
      subst hy
      rw [addr_add, addr_add, cell_of_row _ _ _ _ _ _ (heap_alloc_new w _), cell_of_row _ _ _ _ _ _ (heap_alloc_new w _)]
      exact ⟨rfl, rfl⟩
    · simp at hy
  · simp only [List.mem_singleton] at hy
    subst hy
    exact hz

/-- Fields in memory of the call's own, from block 'base' on. -/
def OwnF (w : World) (base e : Nat) (v : Value) (X : List Fd) : Prop := w.ownsRow base e 2 v X.length (fdC X)
theorem OwnF.slf {w : World} {base e : Nat} {v : Value} {X : List Fd} (h : OwnF w base e v X) (hz : ∀ x ∈ X, x.1.size ≤ maxLen ∧ x.2.size ≤ maxLen) : ∃ A c, v = .slice A X.length c ∧ SlF w A X.length c X := SlF.of_own h hz
theorem OwnF.form {w : World} {base e : Nat} {v : Value} {X : List Fd} (h : OwnF w base e v X) : ∃ A c, v = .slice A X.length c := by
  rcases h.2 with ⟨rfl, h0⟩ | ⟨g, cap, cur, rfl, _⟩
  · exact ⟨none, 0, by rw [h0]⟩
  · exact ⟨_, _, rfl⟩
theorem OwnF.nil (w : World) (base e : Nat) : OwnF w base e (.slice none 0 0) [] := World.ownsRow_nil _ _ _ _
theorem OwnF.alloc {w : World} {base e : Nat} {v : Value} {X : List Fd} (h : OwnF w base e v X) (o : Obj) : OwnF (w.alloc o) base e v X := World.ownsRow.alloc h o
theorem OwnF.drew {w : World} {base e : Nat} {v : Value} {X : List Fd} (h : OwnF w base e v X) : OwnF w.drew base e v X := World.ownsRow.drew h
theorem OwnF.below {w w' : World} {base e : Nat} {v : Value} {X : List Fd} (h : OwnF w base e v X) (hb : Below w.heap.size w w') : OwnF w' base e v X := ownsRow_below h hb

theorem OwnF.wide {w : World} {base base' e : Nat} {v : Value} {X : List Fd} (h : OwnF w base e v X) (hb : base' ≤ base) : OwnF w base' e v X := by
  refine ⟨h.1, ?_⟩
  rcases h.2 with h2 | ⟨g, cap, cur, h1, h2, h3⟩
  · exact .inl h2
  · exact .inr ⟨g, cap, cur, h1, by omega, h3⟩

/-- 'append(out, xs...)' on fields: out the call's own, xs any slice, nil or not. -/
theorem wpList_append_slf {P : Program} {ops : Array Oper} {rest : List Oper} {o : Oper} {a : Act} {w : World} {Q : Exit → Act → World → Prop} (hgd : o.guard = none) (s x : Operand) (t : TypeId)
    (ho : o.op = .call { callee := .builtin .append, args := #[s, x], argTypes := #[t, t] }) (base e : Nat) (ht : P.underlying t = some (.slice e))
    (hI : (P.info? e).map (fun i => (i.zero, i.size, i.bytes)) = some (some (.agg #[.string ⟨#[]⟩, .string ⟨#[]⟩]), 2, 32)) (v : Value) (hs : a.eval s = v) (X : List Fd) (hown : OwnF w base e v X)
    (A : Option Addr) (m c : Nat) (hx : a.eval x = .slice A m c) (Y : List Fd) (hY : SlF w A m c Y) (hlen : X.length + Y.length ≤ 1000000000) (hbase : base ≤ w.heap.size) (w0 : World) (hb : Below base w0 w)
    (h : ∀ v' w', Hid (OwnF w' base e v' (X ++ Y)) → Below base w0 w' → w.heap.size ≤ w'.heap.size → wpList P ops Q rest (a.put o.dst v') w') : wpList P ops Q (o :: rest) a w := by
  obtain ⟨i0, hi, hz0, hz1, hz2⟩ := info_parts hI
  rcases A with _ | ad
  · obtain ⟨rfl, rfl, rfl⟩ := hY.none_eq
    refine wpList_append_own_none hgd s x t ho base e i0 2 ht hi v _ _ hs hown hx ?_
    exact h v w (by rw [List.append_nil]; exact hown) hb (Nat.le_refl _)
  · have hl := hY.len
    refine wpList_append_own w hgd s x t ho base e i0 (.agg #[.string ⟨#[]⟩, .string ⟨#[]⟩]) 2 32 ht hi hz0 hz1 hz2 rfl (by decide) v _ _ hs hown ad m c (fdC Y) hx (by rw [fdC_len, hl]) hY.news (fdC_ones _) (by unfold maxLen; omega) (by omega) hbase ?_
    intro v' w' hown' hgrow _
    refine h v' w' ?_ (hb.grown hgrow hbase (fun k hk => (hown.lt k hk).1)) hgrow.size
    show World.ownsRow _ _ _ _ _ _ _
    rw [List.length_append, hl, fdC_append]
    exact hown'

/-! ### A variable that a call leaves as it was -/
theorem zero_then {W w2 : World} {o : Obj} (hb : Below (W.alloc o).heap.size (W.alloc o) w2) : Below W.heap.size W w2 := ((Below.refl _ _).alloc (Nat.le_refl _) o).trans (hb.mono (by simp))
theorem zero_at {W w2 : World} {o : Obj} (hb : Below (W.alloc o).heap.size (W.alloc o) w2) : w2.heap[W.heap.size]? = some o := (hb.block _ (by simp)).trans (heap_alloc_new W o)
theorem zero_still {W w2 : World} {o : Obj} {B : Nat} (hb : Below W.heap.size W w2) (h : W.heap[B]? = some o) : w2.heap[B]? = some o := (hb.block _ (Array.getElem?_eq_some_iff.1 h).1).trans h
theorem zero_two {W : World} {g t : Nat} {c0 c1 : Value} (h : W.heap[g]? = some (.cells #[c0, c1] t (0, 0))) : W.cell? ⟨g, 0, none⟩ = some c0 ∧ W.cell? ⟨g, 1, none⟩ = some c1 :=
  ⟨(cell_of_row _ _ 0 _ _ _ h).trans rfl, (cell_of_row _ _ 1 _ _ _ h).trans rfl⟩
theorem zero_one {W : World} {g t : Nat} {c0 : Value} (h : W.heap[g]? = some (.cells #[c0] t (0, 0))) : W.cell? ⟨g, 0, none⟩ = some c0 := (cell_of_row _ _ 0 _ _ _ h).trans rfl
theorem zero_more {W : World} {g : Nat} {o o' : Obj} (h : W.heap[g]? = some o) : (W.alloc o').heap[g]? = some o := (Below.heap_alloc W o' g (Array.getElem?_eq_some_iff.1 h).1).trans h

end Go.Proofs.YtfmaaghmbnhikaaGreatDoor
end

/-
  Plain facts of a field and its line (layer 9), without items: prpF, lineS, what Parse answers; a variable of two cells.
-/
section
namespace Go.Proofs.YtfmaaghmbnhikaaGreatDoor
open Go.RowKit

/-- May a field be, but for its length? -/
def prpF (x : Fd) : Bool := ((!x.1.toList.isEmpty && allB tokB x.1.data.toList) && allB txtB x.2.data.toList) && ((mkS (trimL x.2.data.toList)).toList == x.2.toList)
def lineS (x : Fd) : ByteArray := x.1 ++ (⟨#[58, 32]⟩ : ByteArray) ++ x.2
def lngF (x : Fd) : Bool := decide (8192 < x.1.size + 2 + x.2.size)
theorem line_list (x : Fd) : (lineS x).data.toList = x.1.data.toList ++ [58, 32] ++ x.2.data.toList := by
  unfold lineS
  rw [append_list, append_list]
theorem line_size (x : Fd) : (lineS x).size = x.1.size + 2 + x.2.size := by
  unfold lineS
  rw [ByteArray.size_append, ByteArray.size_append]; rfl

/-! ### Parse -/
def flT (s : ByteArray) : Fd := (cutA s 58, mkS (trimL (cutZ s 58).data.toList))
def flO (s : ByteArray) : Bool := cutOk s 58 && ((!(flT s).1.toList.isEmpty && allB tokB (flT s).1.data.toList) && allB txtB (flT s).2.data.toList)
def flF (s : ByteArray) : Fd := if 8192 < s.size then (⟨#[]⟩, ⟨#[]⟩) else if flO s then flT s else (⟨#[]⟩, ⟨#[]⟩)
def flX (s : ByteArray) : Int := if 8192 < s.size then 4 else if flO s then 0 else 21
theorem fl_prp (s : ByteArray) : (cutOk s 58 && prpF (flT s)) = flO s := by
  have h : ((mkS (trimL (flT s).2.data.toList)).toList == (flT s).2.toList) = true := by
    show ((mkS (trimL (mkS (trimL (cutZ s 58).data.toList)).data.toList)).toList == (mkS (trimL (cutZ s 58).data.toList)).toList) = true
    rw [mkS_list, trim_of_edge (trim_edge _)]
    simp
  unfold prpF flO
  rw [h, Bool.and_true]
theorem fl_no {s : ByteArray} (h : ¬ 8192 < s.size) (ho : flO s = false) : flF s = (⟨#[]⟩, ⟨#[]⟩) ∧ flX s = 21 := by simp [flF, flX, h, ho]
theorem fl_yes {s : ByteArray} (h : ¬ 8192 < s.size) (ho : flO s = true) : flF s = flT s ∧ flX s = 0 := by simp [flF, flX, h, ho]
theorem fl_long {s : ByteArray} (h : 8192 < s.size) : flF s = (⟨#[]⟩, ⟨#[]⟩) ∧ flX s = 4 := by simp [flF, flX, h]
theorem fd_cells {W : World} {g t : Nat} {c0 c1 : Value} (h : W.heap[g]? = some (.cells #[c0, c1] t (0, 0))) :
    W.cell? ⟨g, 0, none⟩ = some c0 ∧ W.cell? ⟨g, 1, none⟩ = some c1 ∧ W.frozen? ⟨g, 0, none⟩ = false ∧ W.frozen? ⟨g, 1, none⟩ = false := by
  refine ⟨(zero_two h).1, (zero_two h).2, ?_, ?_⟩
  all_goals simp [World.frozen?, h]
theorem fd_set {W : World} {g t : Nat} {d0 d1 c0 c1 : Value} (h : W.heap[g]? = some (.cells #[d0, d1] t (0, 0))) :
    ((W.setCell ⟨g, 0, none⟩ c0).setCell ⟨g, 1, none⟩ c1).heap[g]? = some (.cells #[c0, c1] t (0, 0)) := by
  simp [World.setCell, Array.getElem?_modify, h]
theorem below_set2 {B g : Nat} {w W : World} {c0 c1 : Value} (h : Below B w W) (hg : B ≤ g) : Below B w ((W.setCell ⟨g, 0, none⟩ c0).setCell ⟨g, 1, none⟩ c1) :=
  (h.setCell (p := ⟨g, 0, none⟩) hg _).setCell (p := ⟨g, 1, none⟩) hg _
theorem flA_le (s : ByteArray) (c : Int) : (cutA s c).size ≤ s.size := by
  unfold cutA
  split
  · exact Nat.le_refl _
  · rw [ByteArray.size_extract]; omega
theorem flZ_le (s : ByteArray) (c : Int) : (cutZ s c).size ≤ s.size := by
  unfold cutZ
  split
  · exact Nat.zero_le _
  · rw [ByteArray.size_extract]; omega
theorem rdw_le (l : List UInt8) : (rdw l).length ≤ l.length := (rdw_prefix l).length_le
theorem trim_le (l : List UInt8) : (trimL l).length ≤ l.length := Nat.le_trans (rdw_le _) (List.IsSuffix.length_le (List.dropWhile_suffix _))
theorem flT_le (s : ByteArray) : (flT s).1.size ≤ s.size ∧ (flT s).2.size ≤ s.size := by
  refine ⟨flA_le s 58, ?_⟩
  show (mkS (trimL (cutZ s 58).data.toList)).size ≤ _
  rw [mkS_size]
  refine Nat.le_trans (trim_le _) ?_
  rw [← Lib.size_eq]
  exact flZ_le s 58

end Go.Proofs.YtfmaaghmbnhikaaGreatDoor
end

/-
  Blocks made one after the other, and a slice of fields that was written out.
-/
section
namespace Go.Proofs.YtfmaaghmbnhikaaGreatDoor
open Go.RowKit

theorem alls_below : ∀ (os : List Obj) (w : World), Below w.heap.size w (os.foldl World.alloc w)
  | [], w => Below.refl _ _
  | o :: os, w => by
    have h1 : Below w.heap.size w (w.alloc o) := (Below.refl _ _).alloc (Nat.le_refl _) o
    exact h1.trans ((alls_below os (w.alloc o)).mono h1.size)
theorem alls_at : ∀ (os : List Obj) (w : World) (i : Nat) (o : Obj), os[i]? = some o → (os.foldl World.alloc w).heap[w.heap.size + i]? = some o
  | [], w, i, o, h => by simp at h
  | a :: os, w, 0, o, h => by
    simp only [List.getElem?_cons_zero, Option.some.injEq] at h
    subst h
    exact zero_still (alls_below os (w.alloc a)) (heap_alloc_new w a)
  | a :: os, w, i + 1, o, h => by
    rw [List.getElem?_cons_succ] at h
    have := alls_at os (w.alloc a) i o h
    rw [show (w.alloc a).heap.size + i = w.heap.size + (i + 1) by simp; omega] at this
    exact this
/-- A slice of fields whose block is written out. -/
theorem slf_row {W : World} {g t : Nat} {L : List Fd} {cs : Array Value} (hc : cs = (fdC L).toArray) (hg : W.heap[g]? = some (.cells cs t (0, 0))) (hl : L.length ≤ maxLen) (hz : ∀ x ∈ L, x.1.size ≤ maxLen ∧ x.2.size ≤ maxLen) :
    SlF W (some ⟨g, 0, none⟩) L.length L.length L := by
  subst hc
  refine ⟨rfl, Nat.le_refl _, hl, (fun e => by cases e), fun _ => ⟨_, rfl, fun j x hx => ?_⟩, hz⟩
  have h := fdC_at L j x hx
  rw [addr_add, addr_add, cell_of_row _ _ _ _ _ _ hg, cell_of_row _ _ _ _ _ _ hg]
  simpa using h

theorem row_at {w : World} {R t : Nat} {cs : Array Value} (h : w.heap[R]? = some (.cells cs t (0, 0))) (k : Nat) (u : Value) (hk : cs[k]? = some u) : w.cell? ⟨R, k, none⟩ = some u ∧ w.frozen? ⟨R, k, none⟩ = false :=
  ⟨(cell_of_row _ _ _ _ _ _ h).trans hk, by simp [World.frozen?, h]⟩
theorem row_set {w : World} {R t k : Nat} {cs : Array Value} (h : w.heap[R]? = some (.cells cs t (0, 0))) (u : Value) : (w.setCell ⟨R, k, none⟩ u).heap[R]? = some (.cells (cs.setIfInBounds k u) t (0, 0)) := by
  simp [World.setCell, Array.getElem?_modify, h]
theorem ownF_lit1 (w : World) (t : TypeId) (x : Fd) {base : Nat} (hb : base ≤ w.heap.size) : OwnF (w.alloc (.cells #[.string x.1, .string x.2] t)) base t (.slice (some ⟨w.heap.size, 0, none⟩) 1 1) [x] :=
  ⟨rfl, .inr ⟨w.heap.size, 1, _, rfl, hb, heap_alloc_new w _, Nat.le_refl _, by decide, rfl, rfl⟩⟩
theorem OwnF.freshL {w : World} {base e n c : Nat} {A : Option Addr} {X : List Fd} (h : OwnF w base e (.slice A n c) X) : ∀ ad, A = some ad → base ≤ ad.block := fun ad hA => by
  subst hA
  exact (World.ownsRow.lt h ad.block rfl).1
/-- Fields lie in another block than the one whose cell is set. -/
theorem SlF.setFar {w : World} {A : Option Addr} {n c : Nat} {L : List Fd} (h : SlF w A n c L) {R k : Nat} (hR : ∀ ad, A = some ad → ad.block ≠ R) (u : Value) : SlF (w.setCell ⟨R, k, none⟩ u) A n c L :=
  ⟨h.len, h.cap, h.cm, h.nil, fun hn => by
    obtain ⟨ad, e, hc⟩ := h.at_ hn
    have hne := hR ad e
    have hk : ∀ j x, w.cell? (ad.add j) = some x → (w.setCell ⟨R, k, none⟩ u).cell? (ad.add j) = some x := fun j x hx => by
      rw [World.cell?_setCell_other _ _ _ _ (by intro h2; have := congrArg Addr.block h2; rw [add_block] at this; exact hne this.symm)]
      exact hx
    exact ⟨ad, e, fun j x hx => ⟨hk _ _ (hc j x hx).1, hk _ _ (hc j x hx).2⟩⟩, h.sz⟩
/-- 'append(out, xs...)' on fields at a step of a region that draws its order: out the call's own, xs not nil. -/
theorem step_append_slf {P : Program} {ops : Array Oper} {o : Oper} {a : Act} {w : World} {K : Act → World → Prop} {Q : Exit → Act → World → Prop} {E : Prop} (hgd : o.guard = none) (s x : Operand) (t : TypeId)
    (ho : o.op = .call { callee := .builtin .append, args := #[s, x], argTypes := #[t, t] }) (base e : Nat) (ht : P.underlying t = some (.slice e))
    (hI : (P.info? e).map (fun i => (i.zero, i.size, i.bytes)) = some (some (.agg #[.string ⟨#[]⟩, .string ⟨#[]⟩]), 2, 32)) (v : Value) (hs : a.eval s = v) (X : List Fd) (hown : OwnF w base e v X)
    (ad : Addr) (m c : Nat) (hx : a.eval x = .slice (some ad) m c) (Y : List Fd) (hY : SlF w (some ad) m c Y) (hm : 0 < m) (hlen : X.length + Y.length ≤ 1000000000) (hbase : base ≤ w.heap.size) (w0 : World) (hb : Below base w0 w)
    (h : ∀ v' w', Hid (OwnF w' base e v' (X ++ Y)) → Below base w0 w' → w.heap.size ≤ w'.heap.size → K (a.put o.dst v') w') :
    if Region.wanted o (yielded ops a.tmps) = true then Oper.wp P o a w K Q else E := by
  obtain ⟨i0, hi, hz0, hz1, hz2⟩ := info_parts hI
  have hl := hY.len
  refine step_append_lies w hgd s x t ho base e i0 (.agg #[.string ⟨#[]⟩, .string ⟨#[]⟩]) 2 32 ht hi hz0 hz1 hz2 rfl (by decide) v _ _ hs hown ad m c (fdC Y) hx (by rw [fdC_len, hl]) hY.news (fdC_ones _) hm (by unfold maxLen; omega) (by omega) hbase _ rfl ?_
  intro g cap w' hown' hgrow _ _
  refine h _ w' ?_ (hb.grown hgrow hbase (fun k hk => (hown.lt k hk).1)) hgrow.size
  show World.ownsRow _ _ _ _ _ _ _
  rw [List.length_append, hl, fdC_append]
  exact hown'
theorem slf_oneA (w : World) (t : TypeId) (x : Fd) (hz : x.1.size ≤ maxLen ∧ x.2.size ≤ maxLen) {g : Nat} (hg : w.heap.size = g) : SlF (w.alloc (.cells #[.string x.1, .string x.2] t)) (some ⟨g, 0, none⟩) 1 1 [x] := by
  subst hg
  exact SlF.one w t x hz

end Go.Proofs.YtfmaaghmbnhikaaGreatDoor
end
