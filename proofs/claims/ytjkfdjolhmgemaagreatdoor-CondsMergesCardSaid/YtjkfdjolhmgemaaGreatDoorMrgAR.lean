/-
  Texts that the laws of this seat lean on, one behind the other.
-/
import Derived.Test.YtjkfdjolhmgemaaGreatDoorMrgR
import Derived.Test.YtjkfdjolhmgemaaGreatDoorMrgAQ
set_option linter.unusedSimpArgs false
set_option linter.unusedVariables false
/-
  Requests and replies that come in: what a struct of five one-cell fields, a slice of fields among them, reads as.
-/
section
namespace Go.Proofs.YtjkfdjolhmgemaaGreatDoor
open Go.RowKit Go.ChangeShapes Go.WideShapes

structure WfQ (w : World) (r : Rqst) (A : Option Addr) (c : Nat) : Prop where
  f : SlF w A r.f.length c r.f
  m : r.m.size ≤ maxLen
  t : r.t.size ≤ maxLen
  b : r.b.size ≤ maxLen
  v : (Lit.int .i64 r.v).wf = true
structure WfP (w : World) (r : Rply) (A : Option Addr) (c : Nat) : Prop where
  f : SlF w A r.f.length c r.f
  s : r.r.size ≤ maxLen
  b : r.b.size ≤ maxLen
  v : (Lit.int .i64 r.v).wf = true
  k : (Lit.int .i64 r.c).wf = true

section
variable {H : Type} {enc : TypeId × Value → H} {P : Program} {w : World} {base : Nat} {held : Bool}
theorem five_of {cs : Array Value} (h : cs.size = 5) : ∃ c0 c1 c2 c3 c4, cs = #[c0, c1, c2, c3, c4] := by
  obtain ⟨l⟩ := cs
  match l, h with
  | [c0, c1, c2, c3, c4], _ => exact ⟨c0, c1, c2, c3, c4, rfl⟩
theorem sl_of {t e : TypeId} {g0 g1 : Field} {c : Value} {n : Nat} {y : DataW H × List MemPlace} (ht : P.underlying t = some (.slice e)) (he : P.underlying e = some (.struct #[g0, g1]))
    (ce : P.cellsOf e = 2) (o0 : g0.offset = 0) (o1 : g1.offset = 1) (c0 : P.cellsOf g0.type = 1) (c1 : P.cellsOf g1.type = 1) (i0 : P.underlying g0.type = some .string) (i1 : P.underlying g1.type = some .string)
    (h : DataW.trod enc P w base (fun _ => true) held n t [c] = some y) : ∃ A k cp L, c = .slice A k cp ∧ SlF w A k cp L := by
  obtain ⟨A, k, cp, hc⟩ := Go.Joins.slice_form ht h
  simp only [List.cons.injEq, and_true] at hc
  subst hc
  obtain ⟨L, hL⟩ := SlF.of_trod (d := y.1) (p := y.2) ht he ce o0 o1 c0 c1 i0 i1 ⟨n, h⟩
  exact ⟨A, k, cp, L, rfl, hL⟩
theorem WfQ.of_trod {r : Reach} {b0 : Nat} {t e : TypeId} {f0 f1 f2 f3 f4 g0 g1 : Field} {v : Value} {d : DataW H} {p : List MemPlace} (hs : P.underlying t = some (.struct #[f0, f1, f2, f3, f4])) (hone : Go.Deep.oneCellFields P #[f0, f1, f2, f3, f4] = true) (hC : P.cellsOf t = 5)
    (k0 : P.underlying f0.type = some .string) (k1 : P.underlying f1.type = some .string) (k2 : P.underlying f2.type = some (.int .i64)) (k3 : P.underlying f3.type = some (.slice e)) (k4 : P.underlying f4.type = some .string)
    (he : P.underlying e = some (.struct #[g0, g1])) (ce : P.cellsOf e = 2) (o0 : g0.offset = 0) (o1 : g1.offset = 1) (c0 : P.cellsOf g0.type = 1) (c1 : P.cellsOf g1.type = 1) (i0 : P.underlying g0.type = some .string) (i1 : P.underlying g1.type = some .string)
    (hv : Value.okWide P w r b0 t v) (h : DataW.Trod enc P w base (fun _ => true) held t v d p) : ∃ q A c, v = .agg (rqC q A c) ∧ WfQ w q A c := by
  obtain ⟨cs, rfl, hsz, hf⟩ := fields_of hs hone hC hv h
  obtain ⟨a0, a1, a2, a3, a4, rfl⟩ := five_of hsz
  obtain ⟨_, _, t0⟩ := hf 0 f0 a0 rfl rfl
  obtain ⟨_, _, t1⟩ := hf 1 f1 a1 rfl rfl
  obtain ⟨_, _, t2⟩ := hf 2 f2 a2 rfl rfl
  obtain ⟨_, _, t3⟩ := hf 3 f3 a3 rfl rfl
  obtain ⟨_, _, t4⟩ := hf 4 f4 a4 rfl rfl
  obtain ⟨s0, e0, _, w0⟩ := DataW.trod_string k0 t0
  obtain ⟨s1, e1, _, w1⟩ := DataW.trod_string k1 t1
  obtain ⟨s2, e2, _, w2⟩ := DataW.trod_int k2 t2
  obtain ⟨A, k, cp, L, e3, w3⟩ := sl_of k3 he ce o0 o1 c0 c1 i0 i1 t3
  obtain ⟨s4, e4, _, w4⟩ := DataW.trod_string k4 t4
  simp only [List.cons.injEq, and_true] at e0 e1 e2 e4
  subst e0 e1 e2 e3 e4
  have hl := w3.len
  subst hl
  exact ⟨⟨s0, s1, s2, L, s4⟩, A, cp, rfl, w3, w0, w1, w4, w2⟩
theorem WfP.of_trod {r : Reach} {b0 : Nat} {t e : TypeId} {f0 f1 f2 f3 f4 g0 g1 : Field} {v : Value} {d : DataW H} {p : List MemPlace} (hs : P.underlying t = some (.struct #[f0, f1, f2, f3, f4])) (hone : Go.Deep.oneCellFields P #[f0, f1, f2, f3, f4] = true) (hC : P.cellsOf t = 5)
    (k0 : P.underlying f0.type = some (.int .i64)) (k1 : P.underlying f1.type = some .string) (k2 : P.underlying f2.type = some (.int .i64)) (k3 : P.underlying f3.type = some (.slice e)) (k4 : P.underlying f4.type = some .string)
    (he : P.underlying e = some (.struct #[g0, g1])) (ce : P.cellsOf e = 2) (o0 : g0.offset = 0) (o1 : g1.offset = 1) (c0 : P.cellsOf g0.type = 1) (c1 : P.cellsOf g1.type = 1) (i0 : P.underlying g0.type = some .string) (i1 : P.underlying g1.type = some .string)
    (hv : Value.okWide P w r b0 t v) (h : DataW.Trod enc P w base (fun _ => true) held t v d p) : ∃ q A c, v = .agg (rpC q A c) ∧ WfP w q A c := by
  obtain ⟨cs, rfl, hsz, hf⟩ := fields_of hs hone hC hv h
  obtain ⟨a0, a1, a2, a3, a4, rfl⟩ := five_of hsz
  obtain ⟨_, _, t0⟩ := hf 0 f0 a0 rfl rfl
  obtain ⟨_, _, t1⟩ := hf 1 f1 a1 rfl rfl
  obtain ⟨_, _, t2⟩ := hf 2 f2 a2 rfl rfl
  obtain ⟨_, _, t3⟩ := hf 3 f3 a3 rfl rfl
  obtain ⟨_, _, t4⟩ := hf 4 f4 a4 rfl rfl
  obtain ⟨s0, e0, _, w0⟩ := DataW.trod_int k0 t0
  obtain ⟨s1, e1, _, w1⟩ := DataW.trod_string k1 t1
  obtain ⟨s2, e2, _, w2⟩ := DataW.trod_int k2 t2
  obtain ⟨A, k, cp, L, e3, w3⟩ := sl_of k3 he ce o0 o1 c0 c1 i0 i1 t3
  obtain ⟨s4, e4, _, w4⟩ := DataW.trod_string k4 t4
  simp only [List.cons.injEq, and_true] at e0 e1 e2 e4
  subst e0 e1 e2 e3 e4
  have hl := w3.len
  subst hl
  exact ⟨⟨s0, s1, s2, L, s4⟩, A, cp, rfl, w3, w1, w4, w2, w0⟩
end

end Go.Proofs.YtjkfdjolhmgemaaGreatDoor
end
