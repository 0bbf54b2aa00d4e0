/-
  Texts that the laws of this seat lean on, one behind the other.
-/
import Derived.Test.YtmpiahahhkimkaaDoorMrgT
import Derived.Test.YtmpiahahhkimkaaDoorMrgU
import Derived.Test.YtmpiahahhkimkaaDoorMrgB
/-
  A Control that comes in: what a struct of six booleans and three integers reads as.
-/
section
namespace Go.Proofs.YtmpiahahhkimkaaDoor
open Go.RowKit Go.ChangeShapes Go.WideShapes

section
variable {H : Type} {enc : TypeId × Value → H} {P : Program} {w : World} {base : Nat} {held : Bool}
theorem nine_of {cs : Array Value} (h : cs.size = 9) : ∃ c0 c1 c2 c3 c4 c5 c6 c7 c8, cs = #[c0, c1, c2, c3, c4, c5, c6, c7, c8] := by
  obtain ⟨l⟩ := cs
  match l, h with
  | [c0, c1, c2, c3, c4, c5, c6, c7, c8], _ => exact ⟨c0, c1, c2, c3, c4, c5, c6, c7, c8, rfl⟩
theorem CtB.of_trod {r : Reach} {b0 : Nat} {t : TypeId} {f0 f1 f2 f3 f4 f5 f6 f7 f8 : Field} {v : Value} {d : DataW H} {p : List MemPlace} (hs : P.underlying t = some (.struct #[f0, f1, f2, f3, f4, f5, f6, f7, f8])) (hone : Go.Deep.oneCellFields P #[f0, f1, f2, f3, f4, f5, f6, f7, f8] = true) (hC : P.cellsOf t = 9)
    (k0 : P.underlying f0.type = some .bool) (k1 : P.underlying f1.type = some .bool) (k2 : P.underlying f2.type = some .bool) (k3 : P.underlying f3.type = some .bool) (k4 : P.underlying f4.type = some .bool) (k5 : P.underlying f5.type = some .bool)
    (k6 : P.underlying f6.type = some (.int .i64)) (k7 : P.underlying f7.type = some (.int .i64)) (k8 : P.underlying f8.type = some (.int .i64))
    (hv : Value.okWide P w r b0 t v) (h : DataW.Trod enc P w base (fun _ => true) held t v d p) : ∃ c : Ctl, v = .agg (ctC c) ∧ CtB c := by
  obtain ⟨cs, rfl, hsz, hf⟩ := fields_of hs hone hC hv h
  obtain ⟨a0, a1, a2, a3, a4, a5, a6, a7, a8, rfl⟩ := nine_of hsz
  obtain ⟨_, _, t0⟩ := hf 0 f0 a0 rfl rfl
  obtain ⟨_, _, t1⟩ := hf 1 f1 a1 rfl rfl
  obtain ⟨_, _, t2⟩ := hf 2 f2 a2 rfl rfl
  obtain ⟨_, _, t3⟩ := hf 3 f3 a3 rfl rfl
  obtain ⟨_, _, t4⟩ := hf 4 f4 a4 rfl rfl
  obtain ⟨_, _, t5⟩ := hf 5 f5 a5 rfl rfl
  obtain ⟨_, _, t6⟩ := hf 6 f6 a6 rfl rfl
  obtain ⟨_, _, t7⟩ := hf 7 f7 a7 rfl rfl
  obtain ⟨_, _, t8⟩ := hf 8 f8 a8 rfl rfl
  obtain ⟨s0, e0, _⟩ := DataW.trod_bool k0 t0
  obtain ⟨s1, e1, _⟩ := DataW.trod_bool k1 t1
  obtain ⟨s2, e2, _⟩ := DataW.trod_bool k2 t2
  obtain ⟨s3, e3, _⟩ := DataW.trod_bool k3 t3
  obtain ⟨s4, e4, _⟩ := DataW.trod_bool k4 t4
  obtain ⟨s5, e5, _⟩ := DataW.trod_bool k5 t5
  obtain ⟨s6, e6, _, w6⟩ := DataW.trod_int k6 t6
  obtain ⟨s7, e7, _, w7⟩ := DataW.trod_int k7 t7
  obtain ⟨s8, e8, _, w8⟩ := DataW.trod_int k8 t8
  simp only [List.cons.injEq, and_true] at e0 e1 e2 e3 e4 e5 e6 e7 e8
  subst e0 e1 e2 e3 e4 e5 e6 e7 e8
  exact ⟨⟨s0, s1, s2, s3, s4, s5, s6, s7, s8⟩, rfl, wf_i64 w6, wf_i64 w7, wf_i64 w8⟩
end

end Go.Proofs.YtmpiahahhkimkaaDoor
end
