/-
  Slices of structs of two integers that came in: what a slice reads as, nil or not.
-/
import Derived.Test.YtjkeipbhhlljjaaComV
import Derived.Deep.SlicePairs
import Derived.ChangeArms
namespace Go.Proofs.Ytjkeipbhhlljjaa
open Go.RowKit Go.ChangeShapes Go.WideShapes

/-- The slice of n structs of two integers at A reads as q. -/
structure SlP (w : World) (A : Option Addr) (n c : Nat) (q : List (Int × Int)) : Prop where
  len : q.length = n
  cap : n ≤ c
  cm : c ≤ maxLen
  at_ : 0 < n → ∃ ad, A = some ad ∧ ∀ j x, q[j]? = some x → w.cell? (ad.add (j * 2)) = some (.int .i64 x.1) ∧ w.cell? (ad.add (j * 2 + 1)) = some (.int .i64 x.2)
  bd : ∀ x ∈ q, (-9223372036854775808 ≤ x.1 ∧ x.1 ≤ 9223372036854775807) ∧ -9223372036854775808 ≤ x.2 ∧ x.2 ≤ 9223372036854775807
theorem SlP.below {w w' : World} {A : Option Addr} {n c : Nat} {q : List (Int × Int)} (h : SlP w A n c q) (hb : Below w.heap.size w w') : SlP w' A n c q :=
  ⟨h.len, h.cap, h.cm, fun hn => by
    obtain ⟨ad, e, hc⟩ := h.at_ hn
    exact ⟨ad, e, fun j x hx => ⟨cell_kept hb (hc j x hx).1, cell_kept hb (hc j x hx).2⟩⟩, h.bd⟩

theorem SlP.of_trod {H : Type} {enc : TypeId × Value → H} {P : Program} {w : World} {base : Nat} {held : Bool} {t e : TypeId} {f0 f1 : Field} {A : Option Addr} {n c : Nat} {d : DataW H} {p : List MemPlace} (ht : P.underlying t = some (.slice e)) (he : P.underlying e = some (.struct #[f0, f1]))
    (ce : P.cellsOf e = 2) (o0 : f0.offset = 0) (o1 : f1.offset = 1) (c0 : P.cellsOf f0.type = 1) (c1 : P.cellsOf f1.type = 1) (i0 : P.underlying f0.type = some (.int .i64)) (i1 : P.underlying f1.type = some (.int .i64))
    (h : DataW.Trod enc P w base (fun _ => true) held t (.slice A n c) d p) : ∃ q, SlP w A n c q := by
  obtain ⟨fuel, hf⟩ := h
  rcases Deep.open_slice_pairs ht he ce o0 o1 c0 c1 hf with ⟨hcs, _⟩ | ⟨a, len, cap, m, n', V0, V1, D0, D1, P0, P1, hcs, _, hl, hm, hmm, _, hx⟩
  · simp [Value.cells] at hcs
    obtain ⟨rfl, rfl, rfl⟩ := hcs
    exact ⟨[], rfl, Nat.le_refl _, Nat.zero_le _, fun h => absurd h (by omega), fun x hx => by cases hx⟩
  · simp [Value.cells] at hcs
    obtain ⟨rfl, rfl, rfl⟩ := hcs
    have hmc : n ≤ m := by rw [hmm]; simpa using hl
    have each : ∀ i, i < n → ∃ x : Int × Int, w.cell? (a.add (i * 2)) = some (.int .i64 x.1) ∧ w.cell? (a.add (i * 2 + 1)) = some (.int .i64 x.2) ∧ ((-9223372036854775808 ≤ x.1 ∧ x.1 ≤ 9223372036854775807) ∧ -9223372036854775808 ≤ x.2 ∧ x.2 ≤ 9223372036854775807) := fun i hi => by
      obtain ⟨h1, h2, h3, h4⟩ := hx i (by omega)
      obtain ⟨k0, e0, _, w0⟩ := DataW.trod_int i0 h3
      obtain ⟨k1, e1, _, w1⟩ := DataW.trod_int i1 h4
      simp only [List.cons.injEq, and_true] at e0 e1
      exact ⟨(k0, k1), by rw [h1, e0], by rw [h2, e1], wf_i64 w0, wf_i64 w1⟩
    obtain ⟨q, hq⟩ := Deep.choose_lt each
    refine ⟨(List.range n).map q, by simp, hl, hm, fun _ => ⟨a, rfl, fun j x hj => ?_⟩, fun x hx => ?_⟩
    · rw [List.getElem?_map, Option.map_eq_some_iff] at hj
      obtain ⟨i, hi, rfl⟩ := hj
      obtain ⟨h1, h2⟩ := List.getElem?_eq_some_iff.1 hi
      simp only [List.length_range, List.getElem_range] at h1 h2
      subst h2
      exact ⟨(hq j h1).1, (hq j h1).2.1⟩
    · obtain ⟨i, hi, rfl⟩ := List.mem_map.1 hx
      exact (hq i (List.mem_range.1 hi)).2.2

end Go.Proofs.Ytjkeipbhhlljjaa
