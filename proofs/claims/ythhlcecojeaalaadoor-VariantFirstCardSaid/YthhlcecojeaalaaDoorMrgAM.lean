/-
  Texts that the laws of this seat lean on, one behind the other.
-/
import Derived.Test.YthhlcecojeaalaaDoorMrgD
import Derived.OpenShut
import Derived.ChangeArms
set_option linter.unusedSimpArgs false
set_option linter.unusedVariables false
/-
  From a row's list of variables to what contracts ask: a listed variable of plain data (integers, strings, arrays, structs) holds just the cells that its datum tells.
-/
section
namespace Go.Proofs.YthhlcecojeaalaaDoor
open Go.RowKit

/-- The cells of a list of parts, each at its place, from 'off' to the end. -/
def flatPl (P : Program) (g : TypeId → DataW Unit → Option (List Value)) (total : Nat) : List (TypeId × Nat) → List (DataW Unit) → Nat → Option (List Value)
  | [], [], off => if off = total then some [] else none
  | (t, o) :: ps, d :: ds, off => if o = off then (g t d).bind fun vs => (flatPl P g total ps ds (off + P.cellsOf t)).map fun r => vs ++ r else none
  | [], _ :: _, _ => none
  | _ :: _, [], _ => none
/-- The cells of plain data. -/
def flatD (P : Program) : Nat → TypeId → DataW Unit → Option (List Value)
  | 0, _, _ => none
  | f + 1, t, d =>
    match P.underlying t, d with
    | some (.int k), .lit (.int _ n) => some [.int k n]
    | some .string, .lit (.string bs) => some [.string (mkS bs)]
    | some (.array n e), .agg ds => flatPl P (flatD P f) (P.cellsOf t) ((List.range n).map fun i => (e, i * P.cellsOf e)) ds 0
    | some (.struct fs), .agg ds => flatPl P (flatD P f) (P.cellsOf t) (fs.toList.map fun x => (x.type, x.offset)) ds 0
    | _, _ => none

section
variable {P : Program} {w : World} {base : Nat} {sp : Nat → Bool} {held : Bool} {enc : TypeId × Value → Unit}

theorem flatPl_is {g : TypeId → DataW Unit → Option (List Value)} {m : Nat} (hg : ∀ t cs d p vs, DataW.trod enc P w base sp held m t cs = some (d, p) → g t d = some vs → cs = vs) (cs : List Value) (total : Nat) (hl : cs.length = total) :
    ∀ (ps : List (TypeId × Nat)) (xs : List (DataW Unit × List MemPlace)) (off : Nat) (vs : List Value),
      (∀ (i : Nat) t o, ps[i]? = some (t, o) → DataW.trod enc P w base sp held m t ((cs.drop o).take (P.cellsOf t)) = xs[i]?) → flatPl P g total ps (xs.map (·.1)) off = some vs → cs.drop off = vs
  | [], [], off, vs, _, h => by
    simp only [List.map_nil, flatPl] at h
    split at h
    · cases h
      rename_i ho
      rw [List.drop_eq_nil_of_le (by omega)]
    · cases h
  | [], _ :: _, _, _, _, h => by simp [flatPl] at h
  | _ :: _, [], _, _, _, h => by simp [flatPl] at h
  | (t, o) :: ps, (d, p) :: xs, off, vs, hx, h => by
    simp only [List.map_cons, flatPl] at h
    split at h
    · rename_i ho
      subst ho
      obtain ⟨v1, h1, h2⟩ := Option.bind_eq_some_iff.1 h
      obtain ⟨r, h3, rfl⟩ := Option.map_eq_some_iff.1 h2
      have e1 := hg t _ d p v1 (hx 0 t o rfl) h1
      have e2 := flatPl_is hg cs total hl ps xs (o + P.cellsOf t) r (fun i t o hi => hx (i + 1) t o hi) h3
      rw [← e1, ← e2, ← List.drop_drop, List.take_append_drop]
    · cases h

theorem flatD_is : ∀ (f m : Nat) (t : TypeId) (cs : List Value) (d : DataW Unit) (p : List MemPlace) (vs : List Value),
    DataW.trod enc P w base sp held m t cs = some (d, p) → flatD P f t d = some vs → cs = vs
  | 0, _, _, _, _, _, _, _, h => by simp [flatD] at h
  | f + 1, m, t, cs, d, p, vs, ht, h => by
    unfold flatD at h
    split at h
    · rename_i k n k' hu
      obtain ⟨n', hc, hx, _⟩ := DataW.trod_int hu ht
      cases hx
      cases h
      exact hc
    · rename_i bs hu
      obtain ⟨s, hc, hx, _⟩ := DataW.trod_string hu ht
      cases hx
      cases h
      rw [hc]; rfl
    · rename_i n e ds hu
      obtain ⟨xs, m', rfl, hx, hl, hn, hi⟩ := DataW.trod_array hu ht
      cases hx
      have := flatPl_is (m := m') (fun t cs d p vs a b => flatD_is f m' t cs d p vs a b) cs _ hl _ xs 0 vs (fun i t o hh => ?_) h
      · simpa using this
      · rw [List.getElem?_map, Option.map_eq_some_iff] at hh
        obtain ⟨j, hj, he⟩ := hh
        cases he
        obtain ⟨hj1, hj2⟩ := List.getElem?_eq_some_iff.1 hj
        simp at hj1 hj2
        subst hj2
        exact hi i hj1
    · rename_i fs ds hu
      obtain ⟨xs, m', rfl, hx, hl, hn, hi⟩ := DataW.trod_struct hu ht
      cases hx
      have := flatPl_is (m := m') (fun t cs d p vs a b => flatD_is f m' t cs d p vs a b) cs _ hl _ xs 0 vs (fun i t o hh => ?_) h
      · simpa using this
      · rw [List.getElem?_map, Option.map_eq_some_iff] at hh
        obtain ⟨j, hj, he⟩ := hh
        cases he
        exact hi i j (by simpa using hj)
    · cases h
end

theorem var_in {P : Program} {W : World} {l : List (String × DataW Unit)} {name : String} {d : DataW Unit} {vs : List Value} {g : Nat} {t : TypeId}
    (h : laidMet P l W) (hm : (name, d) ∈ l) (hg : P.globalNamed name = some g) (hty : (P.globals[g]?).map (·.type) = some t) (hf : flatD P 6 t d = some vs) : W.var? P name = some vs.toArray := by
  obtain ⟨ps, hv, _⟩ := h
  obtain ⟨g', t', cs, fuel, p, hg', ht', hvar, hr⟩ := vars_read_at hv hm
  obtain rfl := Option.some.inj (hg.symm.trans hg')
  obtain rfl := Option.some.inj (hty.symm.trans ht')
  rw [hvar, ← flatD_is 6 fuel t cs.toList d p vs hr hf]

/-- A variable reads as it did behind a call that only makes memory. -/
theorem var_below {P : Program} {n : String} {cs : Array Value} {w w' : World} (h : w.var? P n = some cs) (hb : Below w.heap.size w w') : w'.var? P n = some cs := by
  unfold World.var? at h ⊢
  cases hg : P.globalNamed n with
  | none => rw [hg] at h; simp at h
  | some g =>
    rw [hg] at h
    simp only [Option.bind_some] at h ⊢
    have hlt : g < w.heap.size := by
      rcases Nat.lt_or_ge g w.heap.size with h' | h'
      · exact h'
      · rw [Array.getElem?_eq_none h'] at h; cases h
    rw [hb.block g hlt]
    exact h
end Go.Proofs.YthhlcecojeaalaaDoor
end
