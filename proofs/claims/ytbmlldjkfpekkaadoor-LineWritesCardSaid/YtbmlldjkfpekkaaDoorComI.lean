/-
  An element of an array by value, where the element is one cell.
-/
import Derived.Test.YtbmlldjkfpekkaaDoorComX
namespace Go.Proofs.YtbmlldjkfpekkaaDoor
open Go.RowKit

theorem run_index_one {P : Program} {t e : TypeId} {n : Nat} {d : TypeDesc} (h : P.underlying t = some (.array n e)) (hu : P.underlying e = some d) (hd : (match d with | .struct _ | .array _ _ => true | _ => false) = false)
    (hi : (P.info? e).map (·.size) = some 1) (cs : Array Value) (k : IntKind) (i : Int) (h0 : 0 ≤ i) (h1 : i < n) (v : Value) (hv : cs[i.toNat]? = some v) (w : World) :
    (Instr.index t (.agg cs) (.int k i)).run P w = .ok v w := by
  obtain ⟨ie, hie, he⟩ := Option.map_eq_some_iff.1 hi
  have ha : (isAgg e).run P w = .ok false w := by
    cases d <;> simp_all [isAgg, run_underlying hu]
  have hs : (sizeOf e).run P w = .ok 1 w := by simp [sizeOf, typeInfo, hie, he]
  simp [Instr.index, run_underlying h, asIntOf, h0, h1, part, ha, hs, Sem.run_bind, hv]

end Go.Proofs.YtbmlldjkfpekkaaDoor
