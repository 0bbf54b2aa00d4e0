/-
  Texts that the laws of this seat lean on, one behind the other.
-/
import Derived.Test.YtmkjjidilfhojaaDoorMrgAB
import Derived.Shelf.RegionOpenPlain
import Derived.Lib.Overlaps
import Derived.Lib.AppendZerosOnto
import Derived.Laws.CopyRow
import Derived.Laws.CopyOwn
import Derived.Laws.Externs
import Derived.Laws.NewBlocks
/-
  Contract of slices.Insert of one field into a row of the call's own.
-/
section
namespace Go.Proofs.YtmkjjidilfhojaaDoor
open Go.RowKit

/-- 'copy(d, s)' into a block that is known whole, at elements of any size. -/
theorem run_copy_rowK {P : Program} (w : World) (dT sT ty elem : TypeId) (k g o dLen dCap : Nat) (a : Addr) (sLen sCap : Nat) (cur : Array Value) (t : TypeId) (cs : List Value)
    (hu : P.underlying dT = some (.slice elem)) (hs : (P.info? elem).map (·.size) = some k)
    (hg : w.heap[g]? = some (.cells cur t (0, 0))) (m : Nat) (hm : Nat.min sLen dLen = m) (hn : cs.length = m * k)
    (hsrc : ∀ j v, cs[j]? = some v → w.cell? (a.add j) = some v) (hfit : o + cs.length ≤ cur.size) (h1 : ∀ v ∈ cs, v.oneCell' = true) :
    (Builtin.copy_ #[dT, sT] ty #[.slice (some ⟨g, o, none⟩) dLen dCap, .slice (some a) sLen sCap]).run P w =
      .ok (goInt m) (w.setRow g (cur.toList.take o ++ cs ++ cur.toList.drop (o + cs.length)).toArray) := by
  have hl := run_loadCells_list (P := P) w a cs hsrc
  have hst := run_storeCells_at P g o t cs 0 cur w hg (by simpa using hfit) h1
  cases hq : P.info? elem with
  | none => simp [hq] at hs
  | some i =>
    have hi : i.size = k := by simpa [hq] using hs
    rw [hn] at hl
    simp [Builtin.copy_, run_underlying hu, Builtin.lenOf, Builtin.firstCells, sizeOf, typeInfo, hq, hi, hm, hl, hst]

theorem wp_copy_runF (w : World) {P : Program} {o : Oper} {a : Act} {K : Act → World → Prop} {Q : Exit → Act → World → Prop} (d s : Operand) (t t' : TypeId)
    (ho : o.op = .call { callee := .builtin .copy, args := #[d, s], argTypes := #[t, t'] }) (v u : Value) (hd : a.eval d = v) (hs : a.eval s = u) {v' : Value} {w' : World}
    (hr : (Builtin.copy_ #[t, t'] o.type #[v, u]).run P w = .ok v' w') (h : K (a.put o.dst v') w') : o.wp P a w K Q := by
  unfold Oper.wp execOp
  simp only [ho, resolve, invoke, builtin, Sem.run_bind, Sem.run_pure, Result.andThen_ok, List.map_toArray, List.map_cons, List.map_nil, hd, hs, hr]
  exact h
theorem wpList_copy_runF (w : World) {P : Program} {ops : Array Oper} {rest : List Oper} {o : Oper} {a : Act} {Q : Exit → Act → World → Prop} (hgd : o.guard = none) (d s : Operand) (t t' : TypeId)
    (ho : o.op = .call { callee := .builtin .copy, args := #[d, s], argTypes := #[t, t'] }) (v u : Value) (hd : a.eval d = v) (hs : a.eval s = u) {v' : Value} {w' : World}
    (hr : (Builtin.copy_ #[t, t'] o.type #[v, u]).run P w = .ok v' w') (h : wpList P ops Q rest (a.put o.dst v') w') : wpList P ops Q (o :: rest) a w :=
  wpList_plain hgd fun _ hK => wp_copy_runF w d s t t' ho v u hd hs hr (hK _ _ h)
theorem step_copy_runF {P : Program} {ops : Array Oper} {o : Oper} {a : Act} {w : World} {K : Act → World → Prop} {Q : Exit → Act → World → Prop} {E : Prop}
    (hg : o.guard = none) (d x : Operand) (dT sT : TypeId) (hop : o.op = Op.call { callee := Callee.builtin Builtin.copy, args := #[d, x], argTypes := #[dT, sT] })
    (v u : Value) (hd : a.eval d = v) (hx : a.eval x = u) {v' : Value} {w' : World} (hr : (Builtin.copy_ #[dT, sT] o.type #[v, u]).run P w = .ok v' w') (hK : K (a.put o.dst v') w') :
    if Region.wanted o (yielded ops a.tmps) = true then Oper.wp P o a w K Q else E := by
  have hw : Region.wanted o (yielded ops a.tmps) = true := by simp [Region.wanted, hg]
  rw [if_pos hw]
  unfold Oper.wp
  simp [execOp, hop, resolve, invoke, builtin, hd, hx, hr, Result.andThen]
  exact hK

/-- What stands in the row behind the two copies. -/
theorem ins_list {α : Type} (C : List α) (V R : List α) (k : Nat) (a n : Nat) (ha : a ≤ n) (hn : n + k ≤ C.length) (hV : V.length = k) (hR : R.length = n - a) :
    let C1 := C.take (a + k) ++ R ++ C.drop (a + k + R.length)
    let C2 := C1.take a ++ V ++ C1.drop (a + V.length)
    C1.length = C.length ∧ C2.length = C.length ∧ C2.take (n + k) = C.take a ++ V ++ R := by
  intro C1 C2
  have l1 : C1.length = C.length := by
    show (C.take (a + k) ++ R ++ C.drop (a + k + R.length)).length = _
    simp only [List.length_append, List.length_take, List.length_drop]; omega
  have l2 : C2.length = C.length := by
    show (C1.take a ++ V ++ C1.drop (a + V.length)).length = _
    simp only [List.length_append, List.length_take, List.length_drop]; omega
  refine ⟨l1, l2, ?_⟩
  have e1 : C1.take a = C.take a := by
    show (C.take (a + k) ++ R ++ C.drop (a + k + R.length)).take a = _
    rw [List.append_assoc, List.take_append_of_le_length (by rw [List.length_take]; omega), List.take_take, Nat.min_eq_left (by omega)]
  have e2 : C1.drop (a + V.length) = R ++ C.drop (a + k + R.length) := by
    show (C.take (a + k) ++ R ++ C.drop (a + k + R.length)).drop (a + V.length) = _
    rw [hV, List.append_assoc, List.drop_append_of_le_length (by rw [List.length_take]; omega), List.drop_eq_nil_of_le (by rw [List.length_take]; omega), List.nil_append]
  show (C1.take a ++ V ++ C1.drop (a + V.length)).take (n + k) = _
  rw [e1, e2, ← List.append_assoc, List.take_append_of_le_length (by simp only [List.length_append, List.length_take]; omega), List.take_of_length_le (by simp only [List.length_append, List.length_take]; omega)]

theorem fdC_take (X : List Fd) (i : Nat) : fdC (X.take i) = (fdC X).take (i * 2) := by
  by_cases h : i ≤ X.length
  · have e : fdC X = fdC (X.take i) ++ fdC (X.drop i) := by rw [← fdC_append, List.take_append_drop]
    rw [congrArg (List.take (i * 2)) e, List.take_append_of_le_length (by rw [fdC_len, List.length_take]; omega)]
    exact (List.take_of_length_le (by rw [fdC_len, List.length_take]; omega)).symm
  · rw [List.take_of_length_le (by omega), List.take_of_length_le (by rw [fdC_len]; omega)]
theorem fdC_drop_at (X : List Fd) (i j : Nat) (u : Value) (h : (fdC (X.drop i))[j]? = some u) : (fdC X)[i * 2 + j]? = some u := by
  by_cases hi : i ≤ X.length
  · have e : fdC X = fdC (X.take i) ++ fdC (X.drop i) := by rw [← fdC_append, List.take_append_drop]
    have hl : (fdC (X.take i)).length = i * 2 := by rw [fdC_len, List.length_take]; omega
    rw [e, List.getElem?_append_right (by omega), hl, Nat.add_sub_cancel_left]
    exact h
  · rw [List.drop_eq_nil_of_le (by omega)] at h
    simp [fdC] at h

theorem grow_list {α : Type} (C : List α) (V R : List α) (k : Nat) (a n : Nat) (ha : a ≤ n) (hn : n + k ≤ C.length) (hV : V.length = k) (hR : R.length = n - a) :
    let C1 := C.take a ++ V ++ C.drop (a + V.length)
    let C2 := C1.take (a + k) ++ R ++ C1.drop (a + k + R.length)
    C1.length = C.length ∧ C2.length = C.length ∧ C2.take (n + k) = C.take a ++ V ++ R := by
  intro C1 C2
  have l1 : C1.length = C.length := by
    show (C.take a ++ V ++ C.drop (a + V.length)).length = _
    simp only [List.length_append, List.length_take, List.length_drop]; omega
  have l2 : C2.length = C.length := by
    show (C1.take (a + k) ++ R ++ C1.drop (a + k + R.length)).length = _
    simp only [List.length_append, List.length_take, List.length_drop]; omega
  refine ⟨l1, l2, ?_⟩
  have e1 : C1.take (a + k) = C.take a ++ V := by
    show (C.take a ++ V ++ C.drop (a + V.length)).take (a + k) = _
    rw [List.take_append_of_le_length (by simp only [List.length_append, List.length_take]; omega), List.take_of_length_le (by simp only [List.length_append, List.length_take]; omega)]
  show (C1.take (a + k) ++ R ++ C1.drop (a + k + R.length)).take (n + k) = _
  rw [e1, List.take_append_of_le_length (by simp only [List.length_append, List.length_take]; omega), List.take_of_length_le (by simp only [List.length_append, List.length_take]; omega)]

end Go.Proofs.YtmkjjidilfhojaaDoor
end
