/-
  Texts that the laws of this seat lean on, one behind the other.
-/
import Derived.Test.YtjkfdjolhmgemaaGreatDoorMrgAT
import Derived.Test.YtjkfdjolhmgemaaGreatDoorMrgG
import Derived.Test.YtjkfdjolhmgemaaGreatDoorMrgR
set_option linter.unusedSimpArgs false
set_option linter.unusedVariables false
/-
  A stored reply that comes in, with its picks; slices that lie apart from a block.
-/
section
namespace Go.Proofs.YtjkfdjolhmgemaaGreatDoor
open Go.RowKit Go.ChangeShapes Go.WideShapes

theorem WfK.of_trod {H : Type} {enc : TypeId × Value → H} {P : Program} {w : World} {base : Nat} {held : Bool} {r : Reach} {b0 : Nat} {t e q : TypeId} {f0 f1 f2 e0 e1 e2 e3 e4 g0 g1 j0 j1 j2 : Field} {v : Value} {d : DataW H} {p : List MemPlace}
    (hs : P.underlying t = some (.struct #[f0, f1, f2])) (hC : P.cellsOf t = 7) (o0 : f0.offset = 0) (o1 : f1.offset = 5) (o2 : f2.offset = 6) (c0 : P.cellsOf f0.type = 5) (c1 : P.cellsOf f1.type = 1) (c2 : P.cellsOf f2.type = 1)
    (hr : P.underlying f0.type = some (.struct #[e0, e1, e2, e3, e4])) (k1 : P.underlying f1.type = some (.int .i64)) (k2 : P.underlying f2.type = some (.slice q))
    (p0 : e0.offset = 0) (p1 : e1.offset = 1) (p2 : e2.offset = 2) (p3 : e3.offset = 3) (p4 : e4.offset = 4) (d0 : P.cellsOf e0.type = 1) (d1 : P.cellsOf e1.type = 1) (d2 : P.cellsOf e2.type = 1) (d3 : P.cellsOf e3.type = 1) (d4 : P.cellsOf e4.type = 1)
    (i0 : P.underlying e0.type = some (.int .i64)) (i1 : P.underlying e1.type = some .string) (i2 : P.underlying e2.type = some (.int .i64)) (i3 : P.underlying e3.type = some (.slice e)) (i4 : P.underlying e4.type = some .string)
    (he : P.underlying e = some (.struct #[g0, g1])) (ce : P.cellsOf e = 2) (x0 : g0.offset = 0) (x1 : g1.offset = 1) (y0 : P.cellsOf g0.type = 1) (y1 : P.cellsOf g1.type = 1) (z0 : P.underlying g0.type = some .string) (z1 : P.underlying g1.type = some .string)
    (hq : P.underlying q = some (.struct #[j0, j1, j2])) (cq : P.cellsOf q = 3) (l0 : j0.offset = 0) (l1 : j1.offset = 1) (l2 : j2.offset = 2) (m0 : P.cellsOf j0.type = 1) (m1 : P.cellsOf j1.type = 1) (m2 : P.cellsOf j2.type = 1) (n0 : P.underlying j0.type = some .string) (n1 : P.underlying j1.type = some .bool) (n2 : P.underlying j2.type = some .string)
    (hv : Value.okWide P w r b0 t v) (h : DataW.Trod enc P w base (fun _ => true) held t v d p) : ∃ s A c B n m K, v = .agg (stC s A c B n m) ∧ WfS w s A c ∧ SlK w B n m K := by
  obtain ⟨s, A, c, B, n, m, rfl, hw⟩ := WfS.of_trod hs hC o0 o1 o2 c0 c1 c2 hr k1 k2 p0 p1 p2 p3 p4 d0 d1 d2 d3 d4 i0 i1 i2 i3 i4 he ce x0 x1 y0 y1 z0 z1 hv h
  obtain ⟨fuel, hf⟩ := h
  obtain ⟨n2', u2, t2⟩ := part_of hs hf 2 f2 rfl 6 1 o2 c2
  obtain ⟨K, hK⟩ := SlK.of_trod (A := B) (n := n) (c := m) (d := u2.1) (p := u2.2) k2 hq cq l0 l1 l2 m0 m1 m2 n0 n1 n2 ⟨n2', t2⟩
  exact ⟨s, A, c, B, n, m, K, rfl, hw, hK⟩

/-- What lies at A lies apart from block g. -/
def DisA (A : Option Addr) (n g : Nat) : Prop := 0 < n → ∀ ad, A = some ad → ad.block ≠ g
section
variable {w : World} {A : Option Addr} {n c g : Nat}
theorem SlF.lt {L : List Fd} (h : SlF w A n c L) (hn : 0 < n) : ∀ ad, A = some ad → ad.block < w.heap.size := fun ad e => by
  obtain ⟨ad', e', hc⟩ := h.at_ hn
  rw [e] at e'
  cases e'
  have hl : 0 < L.length := by have := h.len; omega
  have := World.block_lt_of_cell? w _ (hc 0 L[0] (List.getElem?_eq_getElem hl)).1
  rwa [add_blk] at this
theorem SlK.lt {L : List Pk} (h : SlK w A n c L) (hn : 0 < n) : ∀ ad, A = some ad → ad.block < w.heap.size := fun ad e => by
  obtain ⟨ad', e', hc⟩ := h.at_ hn
  rw [e] at e'
  cases e'
  have hl : 0 < L.length := by have := h.len; omega
  have := World.block_lt_of_cell? w _ (hc 0 L[0] (List.getElem?_eq_getElem hl)).1
  rwa [add_blk] at this
theorem SlF.dis {L : List Fd} (h : SlF w A n c L) (hg : w.heap.size ≤ g) : DisA A n g := fun hn ad e => by have := h.lt hn ad e; omega
theorem SlK.dis {L : List Pk} (h : SlK w A n c L) (hg : w.heap.size ≤ g) : DisA A n g := fun hn ad e => by have := h.lt hn ad e; omega
theorem FreshA.dis (h : FreshA w A) (n : Nat) (hg : g < w.heap.size) : DisA A n g := fun _ ad e => by have := h ad e; omega
theorem dis_or {w W0 W : World} {D D' : Option Addr} {n n' c c' g : Nat} {K : List Pk} (h : SlK w D n c K) (h' : SlK W D' n' c' K) (ho : D' = D ∨ FreshA W0 D') (hx : w.heap.size ≤ g) (hx2 : g < W0.heap.size) : DisA D' n' g := fun hn ad e => by
  rcases ho with rfl | hf
  · have h1 := h.len
    have h2 := h'.len
    have := h.lt (by omega) ad e
    omega
  · have := hf ad e; omega
theorem SlF.setRowD {L : List Fd} (h : SlF w A n c L) (hd : DisA A n g) (cs : Array Value) : SlF (w.setRow g cs) A n c L :=
  ⟨h.len, h.cap, h.cm, h.nil, fun hn => by
    obtain ⟨ad, e, hc⟩ := h.at_ hn
    have hne := hd hn ad e
    exact ⟨ad, e, fun j x hx => ⟨by rw [cell_setRow_other _ _ _ _ (by rw [add_blk]; exact hne)]; exact (hc j x hx).1, by rw [cell_setRow_other _ _ _ _ (by rw [add_blk]; exact hne)]; exact (hc j x hx).2⟩⟩, h.sz⟩
theorem SlK.setRowD {L : List Pk} (h : SlK w A n c L) (hd : DisA A n g) (cs : Array Value) : SlK (w.setRow g cs) A n c L :=
  ⟨h.len, h.cap, h.cm, h.nil, fun hn => by
    obtain ⟨ad, e, hc⟩ := h.at_ hn
    have hne := hd hn ad e
    exact ⟨ad, e, fun j x hx => ⟨by rw [cell_setRow_other _ _ _ _ (by rw [add_blk]; exact hne)]; exact (hc j x hx).1, by rw [cell_setRow_other _ _ _ _ (by rw [add_blk]; exact hne)]; exact (hc j x hx).2.1, by rw [cell_setRow_other _ _ _ _ (by rw [add_blk]; exact hne)]; exact (hc j x hx).2.2⟩⟩, h.sz⟩
end

/-- Slices and a cell that is set in another block. -/
theorem SlK.setCellD {w : World} {A : Option Addr} {n c g : Nat} {K : List Pk} (h : SlK w A n c K) (hd : DisA A n g) (k : Nat) (u : Value) : SlK (w.setCell ⟨g, k, none⟩ u) A n c K :=
  ⟨h.len, h.cap, h.cm, h.nil, fun hn => by
    obtain ⟨ad, e, hc⟩ := h.at_ hn
    have hne := hd hn ad e
    have key : ∀ i v, w.cell? (ad.add i) = some v → (w.setCell ⟨g, k, none⟩ u).cell? (ad.add i) = some v := fun i v hv => by
      rw [World.cell?_of_block (w := w) (Below.heap_setCell w ⟨g, k, none⟩ u _ (by rw [add_blk]; exact hne))]
      exact hv
    exact ⟨ad, e, fun j x hx => ⟨key _ _ (hc j x hx).1, key _ _ (hc j x hx).2.1, key _ _ (hc j x hx).2.2⟩⟩, h.sz⟩
theorem SlF.setCellD {w : World} {A : Option Addr} {n c g k : Nat} {L : List Fd} (h : SlF w A n c L) (hd : DisA A n g) (u : Value) : SlF (w.setCell ⟨g, k, none⟩ u) A n c L := by
  have hk : ∀ a v, a.block ≠ g → w.cell? a = some v → (w.setCell ⟨g, k, none⟩ u).cell? a = some v := fun a v ha hv => (World.cell?_of_block (RowKit.Below.heap_setCell _ _ _ _ ha)).trans hv
  refine ⟨h.len, h.cap, h.cm, h.nil, fun hn => ?_, h.sz⟩
  obtain ⟨ad, e, hc⟩ := h.at_ hn
  have hne := hd hn ad e
  exact ⟨ad, e, fun j x hx => ⟨hk _ _ (by rw [add_blk]; exact hne) (hc j x hx).1, hk _ _ (by rw [add_blk]; exact hne) (hc j x hx).2⟩⟩
theorem row_setCell {w : World} {g k b t : Nat} {cs : Array Value} (h : w.heap[b]? = some (.cells cs t (0, 0))) (hb : b ≠ g) (u : Value) : (w.setCell ⟨g, k, none⟩ u).heap[b]? = some (.cells cs t (0, 0)) := (RowKit.Below.heap_setCell _ _ _ _ hb).trans h
theorem SlS.ofRow {w : World} {g t : Nat} {cs : Array Value} (h : w.heap[g]? = some (.cells cs t (0, 0))) (L : List ByteArray) (hc : cs = (L.map Value.string).toArray) (hm : L.length ≤ maxLen) : SlS w (some ⟨g, 0, none⟩) L.length L.length (L.map fun x => x.data.toList) := by
  subst hc
  refine ⟨by simp, Nat.le_refl _, hm, (fun e => by cases e), fun _ => ⟨_, rfl, fun j y hy => ?_⟩⟩
  rw [List.getElem?_map, Option.map_eq_some_iff] at hy
  obtain ⟨x, hx, rfl⟩ := hy
  rw [addr_add, cell_of_row _ _ _ _ _ _ h]
  simp [hx, mkS_self]

end Go.Proofs.YtjkfdjolhmgemaaGreatDoor
end
