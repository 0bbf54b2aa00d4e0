/-
  Texts that the laws of this seat lean on, one behind the other.
-/
import Derived.Test.YthhlcecojeaalaaDoorMrgZ
import Derived.Test.YthhlcecojeaalaaDoorMrgAE
import Derived.Test.YthhlcecojeaalaaDoorMrgJ
import Derived.Test.YthhlcecojeaalaaDoorMrgV
import Derived.Deep.Slices
set_option linter.unusedSimpArgs false
set_option linter.unusedVariables false
/-
  A stored reply that comes in: what a struct of a reply, an integer and a slice reads as; the question that the laws ask of a reply's size.
-/
section
namespace Go.Proofs.YthhlcecojeaalaaDoor
open Go.RowKit Go.ChangeShapes Go.WideShapes

structure WfS (w : World) (s : Stor) (A : Option Addr) (c : Nat) : Prop where
  f : SlF w A s.f.length c s.f
  r : s.r.size ≤ maxLen
  b : s.b.size ≤ maxLen
  c : (Lit.int .i64 s.c).wf = true
  t : (Lit.int .i64 s.t).wf = true

section
variable {H : Type} {enc : TypeId × Value → H} {P : Program} {w : World} {base : Nat} {held : Bool}
theorem seven_of {cs : Array Value} (h : cs.size = 7) : ∃ c0 c1 c2 c3 c4 c5 c6, cs = #[c0, c1, c2, c3, c4, c5, c6] := by
  obtain ⟨l⟩ := cs
  match l, h with
  | [c0, c1, c2, c3, c4, c5, c6], _ => exact ⟨c0, c1, c2, c3, c4, c5, c6, rfl⟩
/-- A struct's part, read. -/
theorem part_of {t : TypeId} {fs : Array Field} {fuel : Nat} {cs : List Value} {x : DataW H × List MemPlace} (ht : P.underlying t = some (.struct fs)) (h : DataW.trod enc P w base (fun _ => true) held fuel t cs = some x)
    (i : Nat) (f : Field) (hi : fs[i]? = some f) (o k : Nat) (ho : f.offset = o) (hk : P.cellsOf f.type = k) : ∃ n y, DataW.trod enc P w base (fun _ => true) held n f.type ((cs.drop o).take k) = some y := by
  obtain ⟨xs, n, _, _, _, hlen, hx⟩ := DataW.trod_struct ht h
  have h1 := hx i f hi
  have hlt : i < xs.length := by rw [hlen]; exact (Array.getElem?_eq_some_iff.1 hi).1
  rw [List.getElem?_eq_getElem hlt, ho, hk] at h1
  exact ⟨n, xs[i], h1⟩
theorem WfS.of_trod {r : Reach} {b0 : Nat} {t e q : TypeId} {f0 f1 f2 e0 e1 e2 e3 e4 g0 g1 : Field} {v : Value} {d : DataW H} {p : List MemPlace}
    (hs : P.underlying t = some (.struct #[f0, f1, f2])) (hC : P.cellsOf t = 7) (o0 : f0.offset = 0) (o1 : f1.offset = 5) (o2 : f2.offset = 6) (c0 : P.cellsOf f0.type = 5) (c1 : P.cellsOf f1.type = 1) (c2 : P.cellsOf f2.type = 1)
    (hr : P.underlying f0.type = some (.struct #[e0, e1, e2, e3, e4])) (k1 : P.underlying f1.type = some (.int .i64)) (k2 : P.underlying f2.type = some (.slice q))
    (p0 : e0.offset = 0) (p1 : e1.offset = 1) (p2 : e2.offset = 2) (p3 : e3.offset = 3) (p4 : e4.offset = 4) (d0 : P.cellsOf e0.type = 1) (d1 : P.cellsOf e1.type = 1) (d2 : P.cellsOf e2.type = 1) (d3 : P.cellsOf e3.type = 1) (d4 : P.cellsOf e4.type = 1)
    (i0 : P.underlying e0.type = some (.int .i64)) (i1 : P.underlying e1.type = some .string) (i2 : P.underlying e2.type = some (.int .i64)) (i3 : P.underlying e3.type = some (.slice e)) (i4 : P.underlying e4.type = some .string)
    (he : P.underlying e = some (.struct #[g0, g1])) (ce : P.cellsOf e = 2) (x0 : g0.offset = 0) (x1 : g1.offset = 1) (y0 : P.cellsOf g0.type = 1) (y1 : P.cellsOf g1.type = 1) (z0 : P.underlying g0.type = some .string) (z1 : P.underlying g1.type = some .string)
    (hv : Value.okWide P w r b0 t v) (h : DataW.Trod enc P w base (fun _ => true) held t v d p) : ∃ s A c B n m, v = .agg (stC s A c B n m) ∧ WfS w s A c := by
  obtain ⟨cs, rfl, hsz⟩ := okWide_struct hs hv
  obtain ⟨a0, a1, a2, a3, a4, a5, a6, rfl⟩ := seven_of (hsz.trans hC)
  obtain ⟨fuel, hf⟩ := h
  obtain ⟨n0, u0, t0⟩ := part_of hs hf 0 f0 rfl 0 5 o0 c0
  obtain ⟨n1, u1, t1⟩ := part_of hs hf 1 f1 rfl 5 1 o1 c1
  obtain ⟨n2, u2, t2⟩ := part_of hs hf 2 f2 rfl 6 1 o2 c2
  obtain ⟨m0, v0, r0⟩ := part_of hr t0 0 e0 rfl 0 1 p0 d0
  obtain ⟨m1, v1, r1⟩ := part_of hr t0 1 e1 rfl 1 1 p1 d1
  obtain ⟨m2, v2, r2⟩ := part_of hr t0 2 e2 rfl 2 1 p2 d2
  obtain ⟨m3, v3, r3⟩ := part_of hr t0 3 e3 rfl 3 1 p3 d3
  obtain ⟨m4, v4, r4⟩ := part_of hr t0 4 e4 rfl 4 1 p4 d4
  obtain ⟨s0, q0, _, w0⟩ := DataW.trod_int i0 (show DataW.trod enc P w base (fun _ => true) held m0 e0.type [a0] = some v0 from r0)
  obtain ⟨s1, q1, _, w1⟩ := DataW.trod_string i1 (show DataW.trod enc P w base (fun _ => true) held m1 e1.type [a1] = some v1 from r1)
  obtain ⟨s2, q2, _, w2⟩ := DataW.trod_int i2 (show DataW.trod enc P w base (fun _ => true) held m2 e2.type [a2] = some v2 from r2)
  have r3 : DataW.trod enc P w base (fun _ => true) held m3 e3.type [a3] = some v3 := r3
  obtain ⟨A, k, cp, hA⟩ := Go.Joins.slice_form i3 r3
  simp only [List.cons.injEq, and_true] at hA
  subst hA
  obtain ⟨L, hL⟩ := SlF.of_trod (d := v3.1) (p := v3.2) i3 he ce x0 x1 y0 y1 z0 z1 ⟨m3, r3⟩
  obtain ⟨s4, q4, _, w4⟩ := DataW.trod_string i4 (show DataW.trod enc P w base (fun _ => true) held m4 e4.type [a4] = some v4 from r4)
  obtain ⟨s5, q5, _, w5⟩ := DataW.trod_int k1 (show DataW.trod enc P w base (fun _ => true) held n1 f1.type [a5] = some u1 from t1)
  obtain ⟨B, n, m, hB⟩ := Go.Joins.slice_form k2 (show DataW.trod enc P w base (fun _ => true) held n2 f2.type [a6] = some u2 from t2)
  simp only [List.cons.injEq, and_true] at q0 q1 q2 q4 q5 hB
  subst q0 q1 q2 q4 q5 hB
  have hl := hL.len
  subst hl
  exact ⟨⟨s0, s1, s2, L, s4, s5⟩, A, cp, B, n, m, rfl, hL, w1, w4, w0, w5⟩
end

def fwR (s : Stor) : Bool := (decide (s.r.size ≤ 500) && decide (s.b.size ≤ 500)) && fewB s.f 70 500
end Go.Proofs.YthhlcecojeaalaaDoor
end

/-
  A stored reply that comes in, with its picks; slices that lie apart from a block.
-/
section
namespace Go.Proofs.YthhlcecojeaalaaDoor
open Go.RowKit Go.ChangeShapes Go.WideShapes

theorem WfK.of_trod {H : Type} {enc : TypeId × Value → H} {P : Program} {w : World} {base : Nat} {held : Bool} {r : Reach} {b0 : Nat} {t e q : TypeId} {f0 f1 f2 e0 e1 e2 e3 e4 g0 g1 j0 j1 j2 : Field} {v : Value} {d : DataW H} {p : List MemPlace}
    (hs : P.underlying t = some (.struct #[f0, f1, f2])) (hC : P.cellsOf t = 7) (o0 : f0.offset = 0) (o1 : f1.offset = 5) (o2 : f2.offset = 6) (c0 : P.cellsOf f0.type = 5) (c1 : P.cellsOf f1.type = 1) (c2 : P.cellsOf f2.type = 1)
    (hr : P.underlying f0.type = some (.struct #[e0, e1, e2, e3, e4])) (k1 : P.underlying f1.type = some (.int .i64)) (k2 : P.underlying f2.type = some (.slice q))
    (p0 : e0.offset = 0) (p1 : e1.offset = 1) (p2 : e2.offset = 2) (p3 : e3.offset = 3) (p4 : e4.offset = 4) (d0 : P.cellsOf e0.type = 1) (d1 : P.cellsOf e1.type = 1) (d2 : P.cellsOf e2.type = 1) (d3 : P.cellsOf e3.type = 1) (d4 : P.cellsOf e4.type = 1)
    (i0 : P.underlying e0.type = some (.int .i64)) (i1 : P.underlying e1.type = some .string) (i2 : P.underlying e2.type = some (.int .i64)) (i3 : P.underlying e3.type = some (.slice e)) (i4 : P.underlying e4.type = some .string)
    (he : P.underlying e = some (.struct #[g0, g1])) (ce : P.cellsOf e = 2) (x0 : g0.offset = 0) (x1 : g1.offset = 1) (y0 : P.cellsOf g0.type = 1) (y1 : P.cellsOf g1.type = 1) (z0 : P.underlying g0.type = some .string) (z1 : P.underlying g1.type = some .string)
    (hq : P.underlying q = some (.struct #[j0, j1, j2])) (cq : P.cellsOf q = 3) (l0 : j0.offset = 0) (l1 : j1.offset = 1) (l2 : j2.offset = 2) (m0 : P.cellsOf j0.type = 1) (m1 : P.cellsOf j1.type = 1) (m2 : P.cellsOf j2.type = 1) (n0 : P.underlying j0.type = some .string) (n1 : P.underlying j1.type = some .bool) (n2 : P.underlying j2.type = some .string)
    (hv : Value.okWide P w r b0 t v) (h : DataW.Trod enc P w base (fun _ => true) held t v d p) : ∃ s A c B n m K, v = .agg (stC s A c B n m) ∧ WfS w s A c ∧ SlK w B n m K := by
  obtain ⟨s, A, c, B, n, m, rfl, hw⟩ := WfS.of_trod hs hC o0 o1 o2 c0 c1 c2 hr k1 k2 p0 p1 p2 p3 p4 d0 d1 d2 d3 d4 i0 i1 i2 i3 i4 he ce x0 x1 y0 y1 z0 z1 hv h
  obtain ⟨fuel, hf⟩ := h
  obtain ⟨n2', u2, t2⟩ := part_of hs hf 2 f2 rfl 6 1 o2 c2
  obtain ⟨K, hK⟩ := SlK.of_trod (A := B) (n := n) (c := m) (d := u2.1) (p := u2.2) k2 hq cq l0 l1 l2 m0 m1 m2 n0 n1 n2 ⟨n2', t2⟩
  exact ⟨s, A, c, B, n, m, K, rfl, hw, hK⟩

/-- What lies at A lies apart from block g. -/
def DisA (A : Option Addr) (n g : Nat) : Prop := 0 < n → ∀ ad, A = some ad → ad.block ≠ g
section
variable {w : World} {A : Option Addr} {n c g : Nat}
theorem SlF.lt {L : List Fd} (h : SlF w A n c L) (hn : 0 < n) : ∀ ad, A = some ad → ad.block < w.heap.size := fun ad e => by
  obtain ⟨ad', e', hc⟩ := h.at_ hn
  rw [e] at e'
  cases e'
  have hl : 0 < L.length := by have := h.len; omega
  have := World.block_lt_of_cell? w _ (hc 0 L[0] (List.getElem?_eq_getElem hl)).1
  rwa [add_blk] at this
theorem SlK.lt {L : List Pk} (h : SlK w A n c L) (hn : 0 < n) : ∀ ad, A = some ad → ad.block < w.heap.size := fun ad e => by
  obtain ⟨ad', e', hc⟩ := h.at_ hn
  rw [e] at e'
  cases e'
  have hl : 0 < L.length := by have := h.len; omega
  have := World.block_lt_of_cell? w _ (hc 0 L[0] (List.getElem?_eq_getElem hl)).1
  rwa [add_blk] at this
theorem SlF.setRowD {L : List Fd} (h : SlF w A n c L) (hd : DisA A n g) (cs : Array Value) : SlF (w.setRow g cs) A n c L :=
  ⟨h.len, h.cap, h.cm, h.nil, fun hn => by
    obtain ⟨ad, e, hc⟩ := h.at_ hn
    have hne := hd hn ad e
    exact ⟨ad, e, fun j x hx => ⟨by rw [cell_setRow_other _ _ _ _ (by rw [add_blk]; exact hne)]; exact (hc j x hx).1, by rw [cell_setRow_other _ _ _ _ (by rw [add_blk]; exact hne)]; exact (hc j x hx).2⟩⟩, h.sz⟩
theorem SlK.setRowD {L : List Pk} (h : SlK w A n c L) (hd : DisA A n g) (cs : Array Value) : SlK (w.setRow g cs) A n c L :=
  ⟨h.len, h.cap, h.cm, h.nil, fun hn => by
    obtain ⟨ad, e, hc⟩ := h.at_ hn
    have hne := hd hn ad e
    exact ⟨ad, e, fun j x hx => ⟨by rw [cell_setRow_other _ _ _ _ (by rw [add_blk]; exact hne)]; exact (hc j x hx).1, by rw [cell_setRow_other _ _ _ _ (by rw [add_blk]; exact hne)]; exact (hc j x hx).2.1, by rw [cell_setRow_other _ _ _ _ (by rw [add_blk]; exact hne)]; exact (hc j x hx).2.2⟩⟩, h.sz⟩
end

/-- Slices and a cell that is set in another block. -/
theorem SlK.setCellD {w : World} {A : Option Addr} {n c g : Nat} {K : List Pk} (h : SlK w A n c K) (hd : DisA A n g) (k : Nat) (u : Value) : SlK (w.setCell ⟨g, k, none⟩ u) A n c K :=
  ⟨h.len, h.cap, h.cm, h.nil, fun hn => by
    obtain ⟨ad, e, hc⟩ := h.at_ hn
    have hne := hd hn ad e
    have key : ∀ i v, w.cell? (ad.add i) = some v → (w.setCell ⟨g, k, none⟩ u).cell? (ad.add i) = some v := fun i v hv => by
      rw [World.cell?_of_block (w := w) (Below.heap_setCell w ⟨g, k, none⟩ u _ (by rw [add_blk]; exact hne))]
      exact hv
    exact ⟨ad, e, fun j x hx => ⟨key _ _ (hc j x hx).1, key _ _ (hc j x hx).2.1, key _ _ (hc j x hx).2.2⟩⟩, h.sz⟩
theorem SlF.setCellD {w : World} {A : Option Addr} {n c g k : Nat} {L : List Fd} (h : SlF w A n c L) (hd : DisA A n g) (u : Value) : SlF (w.setCell ⟨g, k, none⟩ u) A n c L := by
  have hk : ∀ a v, a.block ≠ g → w.cell? a = some v → (w.setCell ⟨g, k, none⟩ u).cell? a = some v := fun a v ha hv => (World.cell?_of_block (RowKit.Below.heap_setCell _ _ _ _ ha)).trans hv
  refine ⟨h.len, h.cap, h.cm, h.nil, fun hn => ?_, h.sz⟩
  obtain ⟨ad, e, hc⟩ := h.at_ hn
  have hne := hd hn ad e
  exact ⟨ad, e, fun j x hx => ⟨hk _ _ (by rw [add_blk]; exact hne) (hc j x hx).1, hk _ _ (by rw [add_blk]; exact hne) (hc j x hx).2⟩⟩
end Go.Proofs.YthhlcecojeaalaaDoor
end

/-
  Slices of stored replies: what a slice reads as, with where each one's lists lie; rows of the call's own, and what is appended to them.
-/
section
namespace Go.Proofs.YthhlcecojeaalaaDoor
open Go.RowKit Go.ChangeShapes Go.WideShapes

/-- A stored reply in memory: what it is, and where its fields and its picks lie. -/
structure Sd where
  x : Sv
  fa : Option Addr
  fc : Nat
  pa : Option Addr
  pc : Nat
def sdA (y : Sd) : Array Value := stC y.x.s y.fa y.fc y.pa y.x.p.length y.pc
def sdC (y : Sd) : List Value := (sdA y).toList
theorem sdC_len (y : Sd) : (sdC y).length = 7 := rfl
theorem sdC_ones (y : Sd) : ∀ u ∈ sdC y, u.oneCell' = true := fun u hu => by
  have : u ∈ [Value.int .i64 y.x.s.c, .string y.x.s.r, .int .i64 y.x.s.v, .slice y.fa y.x.s.f.length y.fc, .string y.x.s.b, .int .i64 y.x.s.t, .slice y.pa y.x.p.length y.pc] := hu
  simp only [List.mem_cons, List.not_mem_nil, or_false] at this
  rcases this with rfl | rfl | rfl | rfl | rfl | rfl | rfl <;> rfl
def sdR (L : List Sd) : List Value := L.flatMap sdC
theorem sdR_cons (y : Sd) (L : List Sd) : sdR (y :: L) = sdC y ++ sdR L := rfl
theorem sdR_append (L M : List Sd) : sdR (L ++ M) = sdR L ++ sdR M := by simp [sdR]
theorem sdR_len : ∀ L : List Sd, (sdR L).length = L.length * 7
  | [] => rfl
  | y :: L => by rw [sdR_cons, List.length_append, sdC_len, sdR_len L, List.length_cons]; omega
theorem sdR_ones (L : List Sd) : ∀ u ∈ sdR L, u.oneCell' = true := fun u hu => by
  obtain ⟨y, _, hy⟩ := List.mem_flatMap.1 hu
  exact sdC_ones y u hy
theorem sdR_at : ∀ (L : List Sd) (j i : Nat) (y : Sd), L[j]? = some y → i < 7 → (sdR L)[j * 7 + i]? = (sdC y)[i]?
  | [], j, i, y, h, _ => by simp at h
  | z :: L, 0, i, y, h, hi => by
    simp only [List.getElem?_cons_zero, Option.some.injEq] at h
    subst h
    rw [sdR_cons, Nat.zero_mul, Nat.zero_add, List.getElem?_append_left (by rw [sdC_len]; exact hi)]
  | z :: L, j + 1, i, y, h, hi => by
    rw [List.getElem?_cons_succ] at h
    rw [sdR_cons, List.getElem?_append_right (by rw [sdC_len]; omega), sdC_len, show (j + 1) * 7 + i - 7 = j * 7 + i by omega]
    exact sdR_at L j i y h hi
/-- Its lists are there. -/
structure SdAt (w : World) (y : Sd) : Prop where
  f : SlF w y.fa y.x.s.f.length y.fc y.x.s.f
  k : SlK w y.pa y.x.p.length y.pc y.x.p
theorem SdAt.keep {w w' : World} {y : Sd} (h : SdAt w y) (hk : ∀ a u, w.cell? a = some u → w'.cell? a = some u) : SdAt w' y := ⟨h.f.keep hk, h.k.keep hk⟩

/-- The slice of n stored replies at A, of capacity c, reads as L. -/
structure SlD (w : World) (A : Option Addr) (n c : Nat) (L : List Sd) : Prop where
  len : L.length = n
  cap : n ≤ c
  cm : c ≤ maxLen
  nil : A = none → c = 0
  at_ : 0 < n → ∃ ad, A = some ad ∧ ∀ j u, (sdR L)[j]? = some u → w.cell? (ad.add j) = some u
  all : ∀ y ∈ L, SdAt w y
  sz : ∀ y ∈ L, y.x.s.r.size ≤ maxLen ∧ y.x.s.b.size ≤ maxLen

theorem cell_off {w : World} {ad : Addr} {m i : Nat} {v : Value} (h : w.cell? (ad.add (m + (i + 1))) = some v) : w.cell? { block := (ad.add m).block, off := (ad.add m).off + (i + 1) } = some v := by
  rw [← Go.Addr.add_add] at h
  rwa [Addr.add_succ'] at h

section
variable {w w' : World} {A : Option Addr} {n c : Nat} {L : List Sd}
theorem SlD.none_ (w : World) : SlD w none 0 0 [] := ⟨rfl, Nat.le_refl _, Nat.zero_le _, fun _ => rfl, fun h => absurd h (by omega), (fun _ h => by cases h), fun _ h => by cases h⟩
theorem SlD.none_eq (h : SlD w none n c L) : n = 0 ∧ c = 0 ∧ L = [] := by
  have h1 := h.nil rfl
  have h2 := h.cap
  have h3 := h.len
  exact ⟨by omega, h1, List.eq_nil_of_length_eq_zero (by omega)⟩
theorem SlD.keep (h : SlD w A n c L) (hk : ∀ a u, w.cell? a = some u → w'.cell? a = some u) : SlD w' A n c L :=
  ⟨h.len, h.cap, h.cm, h.nil, fun hn => by
    obtain ⟨ad, e, hc⟩ := h.at_ hn
    exact ⟨ad, e, fun j u hu => hk _ _ (hc j u hu)⟩, fun y hy => (h.all y hy).keep hk, h.sz⟩
theorem SlD.below (h : SlD w A n c L) (hb : Below w.heap.size w w') : SlD w' A n c L := h.keep fun _ _ hu => cell_kept hb hu
theorem SlD.alloc (h : SlD w A n c L) (o : Obj) : SlD (w.alloc o) A n c L := h.keep fun _ _ hu => Lib.cell?_alloc_some o hu
theorem SlD.drew (h : SlD w A n c L) : SlD w.drew A n c L := h.keep fun _ _ hu => hu
theorem SlD.le (h : SlD w A n c L) : L.length ≤ maxLen := by have := h.len; have := h.cap; have := h.cm; omega
/-- The cells of the element at j, as a load asks for them. -/
theorem SlD.elem {ad : Addr} (h : SlD w (some ad) n c L) {j : Nat} (hj : j < L.length) :
    w.cell? (ad.add (j * 7)) = some (.int .i64 L[j].x.s.c) ∧ w.cell? { block := (ad.add (j * 7)).block, off := (ad.add (j * 7)).off + 1 } = some (.string L[j].x.s.r) ∧ w.cell? { block := (ad.add (j * 7)).block, off := (ad.add (j * 7)).off + 2 } = some (.int .i64 L[j].x.s.v) ∧
    w.cell? { block := (ad.add (j * 7)).block, off := (ad.add (j * 7)).off + 3 } = some (.slice L[j].fa L[j].x.s.f.length L[j].fc) ∧ w.cell? { block := (ad.add (j * 7)).block, off := (ad.add (j * 7)).off + 4 } = some (.string L[j].x.s.b) ∧
    w.cell? { block := (ad.add (j * 7)).block, off := (ad.add (j * 7)).off + 5 } = some (.int .i64 L[j].x.s.t) ∧ w.cell? { block := (ad.add (j * 7)).block, off := (ad.add (j * 7)).off + 6 } = some (.slice L[j].pa L[j].x.p.length L[j].pc) := by
  obtain ⟨ad', e, hc⟩ := h.at_ (by have := h.len; omega)
  cases e
  have hx : L[j]? = some L[j] := List.getElem?_eq_getElem hj
  have k : ∀ i, i < 7 → ∀ u, (sdC L[j])[i]? = some u → w.cell? (ad.add (j * 7 + i)) = some u := fun i hi u hu => hc _ _ ((sdR_at L j i _ hx hi).trans hu)
  exact ⟨k 0 (by omega) _ rfl, cell_off (k 1 (by omega) _ rfl), cell_off (k 2 (by omega) _ rfl), cell_off (k 3 (by omega) _ rfl), cell_off (k 4 (by omega) _ rfl), cell_off (k 5 (by omega) _ rfl), cell_off (k 6 (by omega) _ rfl)⟩

/-- The cells of a stored reply at b. -/
def ElD (w : World) (b : Addr) (z : Sd) : Prop :=
  w.cell? b = some (.int .i64 z.x.s.c) ∧ w.cell? { block := b.block, off := b.off + 1 } = some (.string z.x.s.r) ∧ w.cell? { block := b.block, off := b.off + 2 } = some (.int .i64 z.x.s.v) ∧ w.cell? { block := b.block, off := b.off + 3 } = some (.slice z.fa z.x.s.f.length z.fc) ∧
  w.cell? { block := b.block, off := b.off + 4 } = some (.string z.x.s.b) ∧ w.cell? { block := b.block, off := b.off + 5 } = some (.int .i64 z.x.s.t) ∧ w.cell? { block := b.block, off := b.off + 6 } = some (.slice z.pa z.x.p.length z.pc)
theorem ElD.below {b : Addr} {z : Sd} (h : ElD w b z) (hb : Below w.heap.size w w') : ElD w' b z :=
  ⟨cell_kept hb h.1, cell_kept hb h.2.1, cell_kept hb h.2.2.1, cell_kept hb h.2.2.2.1, cell_kept hb h.2.2.2.2.1, cell_kept hb h.2.2.2.2.2.1, cell_kept hb h.2.2.2.2.2.2⟩
theorem SlD.el {ad : Addr} (h : SlD w (some ad) n c L) {j : Nat} (hj : j < L.length) : ElD w (ad.add (j * 7)) L[j] := h.elem hj

theorem SlD.of_own {base e : Nat} {v : Value} (h : w.ownsRow base e 7 v n (sdR L)) (ha : ∀ y ∈ L, SdAt w y) (hz : ∀ y ∈ L, y.x.s.r.size ≤ maxLen ∧ y.x.s.b.size ≤ maxLen) : ∃ A c, v = .slice A n c ∧ SlD w A n c L := by
  have hl : L.length = n := by have := h.1; rw [sdR_len] at this; omega
  rcases h.2 with ⟨rfl, rfl⟩ | ⟨g, cap, cur, rfl, _, hg, hnc, hcm, hcs, ht⟩
  · obtain rfl : L = [] := List.eq_nil_of_length_eq_zero hl
    exact ⟨_, _, rfl, SlD.none_ w⟩
  · exact ⟨_, _, rfl, hl, hnc, hcm, (fun e => by cases e), (fun _ => ⟨_, rfl, fun j u hu => h.cells (g := g) rfl _ _ hu⟩), ha, hz⟩
end

/-- A slice of stored replies that comes in. -/
theorem SlD.of_trod {H : Type} {enc : TypeId × Value → H} {P : Program} {w : World} {base : Nat} {held : Bool} {t e q0 q : TypeId} {f0 f1 f2 e0 e1 e2 e3 e4 g0 g1 j0 j1 j2 : Field} {d : DataW H} {p : List MemPlace} {A : Option Addr} {n c : Nat} (ht : P.underlying t = some (.slice e))
    (hs : P.underlying e = some (.struct #[f0, f1, f2])) (hC : P.cellsOf e = 7) (o0 : f0.offset = 0) (o1 : f1.offset = 5) (o2 : f2.offset = 6) (c0 : P.cellsOf f0.type = 5) (c1 : P.cellsOf f1.type = 1) (c2 : P.cellsOf f2.type = 1)
    (hr : P.underlying f0.type = some (.struct #[e0, e1, e2, e3, e4])) (k1 : P.underlying f1.type = some (.int .i64)) (k2 : P.underlying f2.type = some (.slice q))
    (p0 : e0.offset = 0) (p1 : e1.offset = 1) (p2 : e2.offset = 2) (p3 : e3.offset = 3) (p4 : e4.offset = 4) (d0 : P.cellsOf e0.type = 1) (d1 : P.cellsOf e1.type = 1) (d2 : P.cellsOf e2.type = 1) (d3 : P.cellsOf e3.type = 1) (d4 : P.cellsOf e4.type = 1)
    (i0 : P.underlying e0.type = some (.int .i64)) (i1 : P.underlying e1.type = some .string) (i2 : P.underlying e2.type = some (.int .i64)) (i3 : P.underlying e3.type = some (.slice q0)) (i4 : P.underlying e4.type = some .string)
    (he : P.underlying q0 = some (.struct #[g0, g1])) (ce : P.cellsOf q0 = 2) (x0 : g0.offset = 0) (x1 : g1.offset = 1) (y0 : P.cellsOf g0.type = 1) (y1 : P.cellsOf g1.type = 1) (z0 : P.underlying g0.type = some .string) (z1 : P.underlying g1.type = some .string)
    (hq : P.underlying q = some (.struct #[j0, j1, j2])) (cq : P.cellsOf q = 3) (l0 : j0.offset = 0) (l1 : j1.offset = 1) (l2 : j2.offset = 2) (m0 : P.cellsOf j0.type = 1) (m1 : P.cellsOf j1.type = 1) (m2 : P.cellsOf j2.type = 1) (n0 : P.underlying j0.type = some .string) (n1 : P.underlying j1.type = some .bool) (n2 : P.underlying j2.type = some .string)
    (h : DataW.Trod enc P w base (fun _ => true) held t (.slice A n c) d p) : ∃ L, SlD w A n c L ∧ ∀ y ∈ L, (Lit.int .i64 y.x.s.c).wf = true ∧ (Lit.int .i64 y.x.s.v).wf = true ∧ (Lit.int .i64 y.x.s.t).wf = true := by
  obtain ⟨fuel, hf⟩ := h
  rcases Deep.open_slice ht hf with ⟨hcs, _⟩ | ⟨a, len, cap, m, n', D, Pl, hcs, _, hl, hm, hmm, _, hx⟩
  · simp [Value.cells] at hcs
    obtain ⟨rfl, rfl, rfl⟩ := hcs
    exact ⟨[], SlD.none_ w, fun _ h => by cases h⟩
  · simp [Value.cells] at hcs
    obtain ⟨rfl, rfl, rfl⟩ := hcs
    have hmc : n ≤ m := by rw [hmm]; simpa using hl
    have each : ∀ i, i < n → ∃ y : Sd, (∀ k, k < 7 → w.cell? (a.add (i * 7 + k)) = (sdC y)[k]?) ∧ SdAt w y ∧ (y.x.s.r.size ≤ maxLen ∧ y.x.s.b.size ≤ maxLen) ∧ (Lit.int .i64 y.x.s.c).wf = true ∧ (Lit.int .i64 y.x.s.v).wf = true ∧ (Lit.int .i64 y.x.s.t).wf = true := fun i hi => by
      obtain ⟨cs', h1, h2⟩ := hx i (by omega)
      rw [hC] at h1
      obtain ⟨_, hlen, hcell⟩ := World.cells?_some h1
      match cs', hlen with
      | [a0, a1, a2, a3, a4, a5, a6], _ =>
        obtain ⟨_, u0, t0⟩ := part_of hs h2 0 f0 rfl 0 5 o0 c0
        obtain ⟨b1, u1, t1⟩ := part_of hs h2 1 f1 rfl 5 1 o1 c1
        obtain ⟨b2, u2, t2⟩ := part_of hs h2 2 f2 rfl 6 1 o2 c2
        obtain ⟨r0, v0, s0⟩ := part_of hr t0 0 e0 rfl 0 1 p0 d0
        obtain ⟨r1, v1, s1⟩ := part_of hr t0 1 e1 rfl 1 1 p1 d1
        obtain ⟨r2, v2, s2⟩ := part_of hr t0 2 e2 rfl 2 1 p2 d2
        obtain ⟨r3, v3, s3⟩ := part_of hr t0 3 e3 rfl 3 1 p3 d3
        obtain ⟨r4, v4, s4⟩ := part_of hr t0 4 e4 rfl 4 1 p4 d4
        obtain ⟨sc, q0', _, w0⟩ := DataW.trod_int i0 (show DataW.trod enc P w base (fun _ => true) held r0 e0.type [a0] = some v0 from s0)
        obtain ⟨sr, q1', _, w1⟩ := DataW.trod_string i1 (show DataW.trod enc P w base (fun _ => true) held r1 e1.type [a1] = some v1 from s1)
        obtain ⟨sv, q2', _, w2⟩ := DataW.trod_int i2 (show DataW.trod enc P w base (fun _ => true) held r2 e2.type [a2] = some v2 from s2)
        have s3 : DataW.trod enc P w base (fun _ => true) held r3 e3.type [a3] = some v3 := s3
        obtain ⟨F, fk, fc, hA⟩ := Go.Joins.slice_form i3 s3
        simp only [List.cons.injEq, and_true] at hA
        subst hA
        obtain ⟨FL, hFL⟩ := SlF.of_trod (d := v3.1) (p := v3.2) i3 he ce x0 x1 y0 y1 z0 z1 ⟨r3, s3⟩
        obtain ⟨sb, q4', _, w4⟩ := DataW.trod_string i4 (show DataW.trod enc P w base (fun _ => true) held r4 e4.type [a4] = some v4 from s4)
        obtain ⟨st, q5', _, w5⟩ := DataW.trod_int k1 (show DataW.trod enc P w base (fun _ => true) held b1 f1.type [a5] = some u1 from t1)
        have t2 : DataW.trod enc P w base (fun _ => true) held b2 f2.type [a6] = some u2 := t2
        obtain ⟨K, kn, kc, hB⟩ := Go.Joins.slice_form k2 t2
        simp only [List.cons.injEq, and_true] at q0' q1' q2' q4' q5' hB
        subst q0' q1' q2' q4' q5' hB
        obtain ⟨KL, hKL⟩ := SlK.of_trod (A := K) (n := kn) (c := kc) (d := u2.1) (p := u2.2) k2 hq cq l0 l1 l2 m0 m1 m2 n0 n1 n2 ⟨b2, t2⟩
        have hfl := hFL.len
        have hkl := hKL.len
        subst hfl hkl
        refine ⟨⟨⟨⟨sc, sr, sv, FL, sb, st⟩, KL⟩, F, fc, K, kc⟩, fun k hk => ?_, ⟨hFL, hKL⟩, ⟨w1, w4⟩, w0, w2, w5⟩
        have := hcell k (by simpa using hk)
        rw [Go.Addr.add_add] at this
        rw [this]
        match k, hk with
        | 0, _ => rfl
        | 1, _ => rfl
        | 2, _ => rfl
        | 3, _ => rfl
        | 4, _ => rfl
        | 5, _ => rfl
        | 6, _ => rfl
    have : Inhabited Sd := ⟨⟨⟨⟨0, ⟨#[]⟩, 0, [], ⟨#[]⟩, 0⟩, []⟩, none, 0, none, 0⟩⟩
    obtain ⟨r, hr'⟩ := Deep.choose_lt each
    have mem : ∀ y ∈ (List.range n).map r, ∃ i, i < n ∧ y = r i := fun y hy => by
      obtain ⟨i, hi, rfl⟩ := List.mem_map.1 hy
      exact ⟨i, List.mem_range.1 hi, rfl⟩
    refine ⟨(List.range n).map r, ⟨by simp, hl, hm, (fun e => by cases e), fun _ => ⟨a, rfl, fun j u hj => ?_⟩, fun y hy => ?_, fun y hy => ?_⟩, fun y hy => ?_⟩
    · have hjl : j < n * 7 := by
        have := (List.getElem?_eq_some_iff.1 hj).1
        rw [sdR_len, List.length_map, List.length_range] at this
        exact this
      have h7 : j / 7 < n := by omega
      have hx' : ((List.range n).map r)[j / 7]? = some (r (j / 7)) := by
        rw [List.getElem?_map, List.getElem?_range h7]; rfl
      have h8 := sdR_at _ (j / 7) (j % 7) _ hx' (by omega)
      rw [show j / 7 * 7 + j % 7 = j by omega, hj] at h8
      have h9 := (hr' (j / 7) h7).1 (j % 7) (by omega)
      rw [show j / 7 * 7 + j % 7 = j by omega] at h9
      rw [h9, ← h8]
    · obtain ⟨i, hi, rfl⟩ := mem y hy; exact (hr' i hi).2.1
    · obtain ⟨i, hi, rfl⟩ := mem y hy; exact (hr' i hi).2.2.1
    · obtain ⟨i, hi, rfl⟩ := mem y hy; exact (hr' i hi).2.2.2

/-- Stored replies in memory of the call's own, from block 'base' on. -/
def OwnD (w : World) (base e : Nat) (v : Value) (X : List Sd) : Prop := w.ownsRow base e 7 v X.length (sdR X)
section
variable {w w' : World} {base e : Nat} {v : Value} {X : List Sd}
theorem OwnD.sld (h : OwnD w base e v X) (ha : ∀ y ∈ X, SdAt w y) (hz : ∀ y ∈ X, y.x.s.r.size ≤ maxLen ∧ y.x.s.b.size ≤ maxLen) : ∃ A c, v = .slice A X.length c ∧ SlD w A X.length c X := SlD.of_own h ha hz
theorem OwnD.form (h : OwnD w base e v X) : ∃ A c, v = .slice A X.length c := by
  rcases h.2 with ⟨rfl, h0⟩ | ⟨g, cap, cur, rfl, _⟩
  · exact ⟨none, 0, by rw [h0]⟩
  · exact ⟨_, _, rfl⟩
theorem OwnD.nil (w : World) (base e : Nat) : OwnD w base e (.slice none 0 0) [] := World.ownsRow_nil _ _ _ _
theorem OwnD.alloc (h : OwnD w base e v X) (o : Obj) : OwnD (w.alloc o) base e v X := World.ownsRow.alloc h o
theorem OwnD.drew (h : OwnD w base e v X) : OwnD w.drew base e v X := World.ownsRow.drew h
theorem OwnD.below (h : OwnD w base e v X) (hb : Below w.heap.size w w') : OwnD w' base e v X := ownsRow_below h hb
theorem OwnD.wide {base' : Nat} (h : OwnD w base e v X) (hb : base' ≤ base) : OwnD w base' e v X := by
  refine ⟨h.1, ?_⟩
  rcases h.2 with h2 | ⟨g, cap, cur, h1, h2, h3⟩
  · exact .inl h2
  · exact .inr ⟨g, cap, cur, h1, by omega, h3⟩
/-- A literal of one stored reply. -/
theorem OwnD.one (w : World) (t : TypeId) (y : Sd) {base : Nat} (hb : base ≤ w.heap.size) : OwnD (w.alloc (.cells (sdA y) t)) base t (.slice (some ⟨w.heap.size, 0, none⟩) 1 1) [y] :=
  ⟨rfl, .inr ⟨w.heap.size, 1, _, rfl, hb, heap_alloc_new w _, Nat.le_refl _, by decide, rfl, rfl⟩⟩
end

theorem cell_of_own {w : World} {base e g : Nat} {X : List Sd} {n c : Nat} (h : OwnD w base e (.slice (some ⟨g, 0, none⟩) n c) X) (j : Nat) (u : Value) (hu : (sdR X)[j]? = some u) : w.cell? ((⟨g, 0, none⟩ : Addr).add j) = some u := World.ownsRow.cells (g := g) h rfl j u hu
/-- 'append(out, xs...)' on stored replies: out the call's own, xs any slice, nil or not. -/
theorem wpList_append_sld {P : Program} {ops : Array Oper} {rest : List Oper} {o : Oper} {a : Act} {w : World} {Q : Exit → Act → World → Prop} (hgd : o.guard = none) (s x : Operand) (t : TypeId)
    (ho : o.op = .call { callee := .builtin .append, args := #[s, x], argTypes := #[t, t] }) (base e : Nat) (ht : P.underlying t = some (.slice e))
    (hI : (P.info? e).map (fun i => (i.zero, i.size, i.bytes)) = some (some (.agg #[.int .i64 0, .string ⟨#[]⟩, .int .i64 0, .slice none 0 0, .string ⟨#[]⟩, .int .i64 0, .slice none 0 0]), 7, 104)) (v : Value) (hs : a.eval s = v) (X : List Sd) (hown : OwnD w base e v X)
    (A : Option Addr) (m c : Nat) (hx : a.eval x = .slice A m c) (Y : List Sd) (hl : Y.length = m) (hA : A = none → m = 0 ∧ c = 0) (hY : ∀ ad, A = some ad → ∀ j u, (sdR Y)[j]? = some u → w.cell? (ad.add j) = some u) (hlen : X.length + Y.length ≤ 100000000) (hbase : base ≤ w.heap.size) (w0 : World) (hb : Below base w0 w)
    (h : ∀ v' w', Hid (OwnD w' base e v' (X ++ Y)) → Below base w0 w' → w.heap.size ≤ w'.heap.size → Below base w w' → wpList P ops Q rest (a.put o.dst v') w') : wpList P ops Q (o :: rest) a w := by
  obtain ⟨i0, hi, hz0, hz1, hz2⟩ := info_parts hI
  rcases A with _ | ad
  · obtain ⟨rfl, rfl⟩ := hA rfl
    obtain rfl : Y = [] := List.eq_nil_of_length_eq_zero hl
    refine wpList_append_own_none hgd s x t ho base e i0 7 ht hi v _ _ hs hown hx ?_
    exact h v w (by rw [List.append_nil]; exact hown) hb (Nat.le_refl _) (Below.refl _ _ |>.trans (Below.refl _ _))
  · refine wpList_append_own w hgd s x t ho base e i0 (.agg #[.int .i64 0, .string ⟨#[]⟩, .int .i64 0, .slice none 0 0, .string ⟨#[]⟩, .int .i64 0, .slice none 0 0]) 7 104 ht hi hz0 hz1 hz2 rfl (by decide) v _ _ hs hown ad m c (sdR Y) hx (by rw [sdR_len, hl]) (hY ad rfl) (sdR_ones _) (by unfold maxLen; omega) (by omega) hbase ?_
    intro v' w' hown' hgrow _
    refine h v' w' ?_ (hb.grown hgrow hbase (fun k hk => (hown.lt k hk).1)) hgrow.size ((Below.refl _ _).grown hgrow hbase (fun k hk => (hown.lt k hk).1))
    show World.ownsRow _ _ _ _ _ _ _
    rw [List.length_append, hl, sdR_append]
    exact hown'

end Go.Proofs.YthhlcecojeaalaaDoor
end
