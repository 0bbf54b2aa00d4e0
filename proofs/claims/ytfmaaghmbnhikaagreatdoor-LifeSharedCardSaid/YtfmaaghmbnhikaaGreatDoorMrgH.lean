/-
  Texts that the laws of this seat lean on, one behind the other.
-/
import Derived.Test.YtfmaaghmbnhikaaGreatDoorMrgG
/-
  One block may be written, nothing else that was there: 'ButB'; a struct of one slice of bytes behind a pointer: 'Hold1'.
-/
section
namespace Go.Proofs.YtfmaaghmbnhikaaGreatDoor
open Go.RowKit

theorem Sl8.upto {w : World} {A : Option Addr} {n c : Nat} {l : List UInt8} (h : Sl8 w A n c l) {k : Nat} (hk : k ≤ n) : Sl8 w A k c (l.take k) := by
  have h1 := h.len
  have h2 := h.cap
  refine ⟨by rw [List.length_take]; omega, by omega, h.cm, h.nil, fun hn => ?_⟩
  obtain ⟨ad, e, hc⟩ := h.at_ (by omega)
  refine ⟨ad, e, fun j x hx => ?_⟩
  rw [List.getElem?_take] at hx
  split at hx
  · exact hc j x hx
  · cases hx
theorem Sl8.from_ {w : World} {A : Option Addr} {n c : Nat} {l : List UInt8} (h : Sl8 w A n c l) {k : Nat} (hk : k ≤ n) : Sl8 w (if c = k then A else A.map (fun x => x.add k)) (n - k) (c - k) (l.drop k) := by
  have := h.cut hk (Nat.le_refl n)
  rw [List.take_of_length_le (by rw [List.length_drop, h.len]; exact Nat.le_refl _), Nat.mul_one] at this
  exact this

/-- What was there is as it was, but for block R. -/
structure ButB (R : Nat) (w w' : World) : Prop where
  os : w'.os = w.os
  tape : w'.tape = w.tape
  output : w'.output = w.output
  size : w.heap.size ≤ w'.heap.size
  block : ∀ k, k < w.heap.size → k ≠ R → w'.heap[k]? = w.heap[k]?

section
variable {R : Nat} {w w' w'' : World}
theorem ButB.refl (R : Nat) (w : World) : ButB R w w := ⟨rfl, rfl, rfl, Nat.le_refl _, fun _ _ _ => rfl⟩
theorem ButB.of_below (h : Below w.heap.size w w') : ButB R w w' := ⟨h.os, h.tape, h.output, h.size, fun k hk _ => h.block k hk⟩
theorem ButB.trans (h : ButB R w w') (k : ButB R w' w'') : ButB R w w'' :=
  ⟨k.os.trans h.os, k.tape.trans h.tape, k.output.trans h.output, Nat.le_trans h.size k.size, fun i hi hR => (k.block i (Nat.lt_of_lt_of_le hi h.size) hR).trans (h.block i hi hR)⟩
theorem ButB.below {B : Nat} (h : ButB R w w') (hB : B ≤ w.heap.size) (hR : B ≤ R) : Below B w w' :=
  ⟨h.os, h.tape, h.output, h.size, fun k hk => h.block k (by omega) (by omega)⟩
theorem ButB.setCell (h : ButB R w w') (o : Nat) (u : Value) : ButB R w (w'.setCell ⟨R, o, none⟩ u) :=
  h.trans ⟨rfl, rfl, rfl, by simp [World.setCell], fun k _ hk => Below.heap_setCell _ _ _ _ hk⟩

/-- Bytes that lie elsewhere. -/
theorem Sl8.far {A : Option Addr} {n c : Nat} {l : List UInt8} (h : Sl8 w A n c l) (hA : ∀ ad, A = some ad → ad.block ≠ R) (hb : ButB R w w') : Sl8 w' A n c l := by
  refine ⟨h.len, h.cap, h.cm, h.nil, fun hn => ?_⟩
  obtain ⟨ad, e, hc⟩ := h.at_ hn
  refine ⟨ad, e, fun j x hx => ?_⟩
  have h1 := hc j x hx
  exact (World.cell?_of_block (w := w) (hb.block _ (World.block_lt_of_cell? w _ h1) (by rw [add_block]; exact hA ad e))).trans h1
/-- The bytes of a row of the call's own lie from its first block on. -/
theorem Own8.sl8_at {base e : Nat} {v : Value} {X : List UInt8} (h : Own8 w base e v X) : ∃ A c, v = .slice A X.length c ∧ Sl8 w A X.length c X ∧ ∀ ad, A = some ad → base ≤ ad.block ∧ ad.block < w.heap.size := by
  obtain ⟨A, c, rfl, hs⟩ := h.sl8
  refine ⟨A, c, rfl, hs, fun ad hA => ?_⟩
  subst hA
  exact World.ownsRow.lt h ad.block rfl

/-- n bytes lie in block G, whichever, and may be written. -/
def Any8 (w : World) (G n : Nat) : Prop := G < w.heap.size ∧ ∀ j, j < n → ∃ x : UInt8, w.cell? ⟨G, j, none⟩ = some (.int .u8 (x.toNat : Int)) ∧ w.frozen? ⟨G, j, none⟩ = false
theorem Own8.any {base e : Nat} {A : Option Addr} {n c : Nat} {X : List UInt8} (h : Own8 w base e (.slice A n c) X) (hbase : base < w.heap.size) :
    ∃ G, base ≤ G ∧ (0 < X.length → A = some ⟨G, 0, none⟩) ∧ Any8 w G X.length := by
  rcases h.2 with ⟨hv, hn⟩ | ⟨g, cap, cur, hv, hb, hg, hnc, hcm, hcs, ht⟩
  · exact ⟨base, Nat.le_refl _, fun h0 => by omega, hbase, fun j hj => by omega⟩
  · simp only [Value.slice.injEq] at hv
    refine ⟨g, hb, fun _ => hv.1, (Array.getElem?_eq_some_iff.1 hg).1, fun j hj => ?_⟩
    refine ⟨X[j], ?_, by simp [World.frozen?, hg]⟩
    have := World.ownsRow.cells h (g := g) (by rw [hv.1]; rfl) j (byV X[j]) (by rw [List.getElem?_map, List.getElem?_eq_getElem hj]; rfl)
    rw [addr_add] at this
    exact this
theorem Any8.below {G n : Nat} (h : Any8 w G n) (hb : Below w.heap.size w w') : Any8 w' G n :=
  ⟨Nat.lt_of_lt_of_le h.1 hb.size, fun j hj => by
    obtain ⟨x, h1, h2⟩ := h.2 j hj
    exact ⟨x, cell_kept hb h1, (hb.frozen h.1).trans h2⟩⟩
theorem Any8.set {G n : Nat} (h : Any8 w G n) (k : Nat) {z : Int} (hz : ∃ y : UInt8, z = (y.toNat : Int)) : Any8 (w.setCell ⟨G, k, none⟩ (.int .u8 z)) G n := by
  obtain ⟨y, rfl⟩ := hz
  refine ⟨by simpa [World.setCell] using h.1, fun j hj => ?_⟩
  obtain ⟨x, h1, h2⟩ := h.2 j hj
  by_cases e : k = j
  · subst e
    exact ⟨y, by rw [World.cell?_setCell_same (h := h1)], by rw [World.frozen?_setCell]; exact h2⟩
  · exact ⟨x, by rw [World.cell?_setCell_other (h := by simp only [ne_eq, Addr.mk.injEq]; omega)]; exact h1, by rw [World.frozen?_setCell]; exact h2⟩
theorem xor_byte (x : UInt8) : ∃ y : UInt8, bits .xor .u8 (x.toNat : Int) 255 = (y.toNat : Int) := by
  refine ⟨UInt8.ofNat (bits .xor .u8 (x.toNat : Int) 255).toNat, ?_⟩
  have h : 0 ≤ bits .xor .u8 (x.toNat : Int) 255 ∧ bits .xor .u8 (x.toNat : Int) 255 < 256 := by
    unfold bits
    rw [IntKind.wrap_u8]
    omega
  rw [UInt8.toNat_ofNat']
  omega

/-- Block R is one cell, a slice of bytes, that reads as l. -/
def Hold1 (w : World) (R t : Nat) (l : List UInt8) : Prop := ∃ A n c, w.heap[R]? = some (.cells #[.slice A n c] t (0, 0)) ∧ Sl8 w A n c l
theorem Hold1.lt {t : Nat} {l : List UInt8} (h : Hold1 w R t l) : R < w.heap.size := by
  obtain ⟨A, n, c, hg, _⟩ := h
  exact (Array.getElem?_eq_some_iff.1 hg).1
/-- Bytes lie in no such block. -/
theorem Sl8.but {A B : Option Addr} {n c m d t : Nat} {l : List UInt8} (h : Sl8 w A n c l) (hg : w.heap[R]? = some (.cells #[.slice B m d] t (0, 0))) (hb : ButB R w w') : Sl8 w' A n c l := by
  refine ⟨h.len, h.cap, h.cm, h.nil, fun hn => ?_⟩
  obtain ⟨ad, e, hc⟩ := h.at_ hn
  refine ⟨ad, e, fun j x hx => ?_⟩
  have h1 := hc j x hx
  have hlt := World.block_lt_of_cell? w _ h1
  by_cases hR : (ad.add j).block = R
  · exfalso
    simp only [World.cell?, hR, hg] at h1
    split at h1
    · cases h1
    · rcases hk : (ad.add j).off with _ | k
      · rw [hk] at h1
        simp [byV] at h1
      · rw [hk] at h1
        simp at h1
  · exact (World.cell?_of_block (w := w) (hb.block _ hlt hR)).trans h1
theorem Hold1.but_other {S t t' : Nat} {l l' : List UInt8} (h : Hold1 w S t' l) (hR : Hold1 w R t l') (hne : S ≠ R) (hb : ButB R w w') : Hold1 w' S t' l := by
  obtain ⟨A, n, c, hg, hs⟩ := h
  obtain ⟨A', n', c', hg', _⟩ := hR
  exact ⟨A, n, c, (hb.block S (Array.getElem?_eq_some_iff.1 hg).1 hne).trans hg, hs.but hg' hb⟩
theorem Hold1.below {t : Nat} {l : List UInt8} (h : Hold1 w R t l) (hb : Below w.heap.size w w') : Hold1 w' R t l := by
  obtain ⟨A, n, c, hg, hs⟩ := h
  exact ⟨A, n, c, (hb.block R (Array.getElem?_eq_some_iff.1 hg).1).trans hg, hs.below hb⟩
theorem hold_cell {t : Nat} {A : Option Addr} {n c : Nat} (hg : w.heap[R]? = some (.cells #[.slice A n c] t (0, 0))) : w.cell? ⟨R, 0, none⟩ = some (.slice A n c) ∧ w.frozen? ⟨R, 0, none⟩ = false :=
  ⟨by rw [cell_of_row _ _ _ _ _ _ hg]; rfl, by simp [World.frozen?, hg]⟩
theorem hold_set {t : Nat} {A : Option Addr} {n c : Nat} (hg : w.heap[R]? = some (.cells #[.slice A n c] t (0, 0))) (A' : Option Addr) (n' c' : Nat) :
    (w.setCell ⟨R, 0, none⟩ (.slice A' n' c')).heap[R]? = some (.cells #[.slice A' n' c'] t (0, 0)) := by
  simp [World.setCell, Array.getElem?_modify, hg]
end

/-- A byte that came in. -/
theorem byte_of {z : Int} (h : (Lit.int .u8 z).wf = true) : ∃ x : UInt8, z = (x.toNat : Int) := by
  have := wf_byte h
  exact ⟨UInt8.ofNat z.toNat, by rw [UInt8.toNat_ofNat', Nat.mod_eq_of_lt (by omega), Int.toNat_of_nonneg this.1]⟩

/-- A number of 64 bits that came in. -/
theorem u64_of {z : Int} (h : (Lit.int .u64 z).wf = true) : ∃ n : Nat, z = (n : Int) ∧ n < 18446744073709551616 := by
  have hmin : IntKind.u64.min = 0 := rfl
  have hmax : IntKind.u64.max = 18446744073709551615 := rfl
  simp only [Lit.wf, Bool.and_eq_true, decide_eq_true_eq] at h
  exact ⟨z.toNat, by omega, by omega⟩

end Go.Proofs.YtfmaaghmbnhikaaGreatDoor
end
