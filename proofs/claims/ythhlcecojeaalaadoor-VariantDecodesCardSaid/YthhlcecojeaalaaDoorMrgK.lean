/-
  Texts that the laws of this seat lean on, one behind the other.
-/
import Derived.Test.YthhlcecojeaalaaDoorMrgC
import Derived.Test.YthhlcecojeaalaaDoorMrgA
import Derived.Test.YthhlcecojeaalaaDoorMrgB
import Derived.Test.YthhlcecojeaalaaDoorMrgJ
import Derived.Laws.OwnMore
import Derived.Laws.CopyRow
import Derived.Laws.Tables
import Derived.Deep.OwnRows
set_option linter.unusedSimpArgs false
set_option linter.unusedVariables false
/-
  Plain functions of layer 11, without the program: lines, sizes, chunks.
-/
section
namespace Go.Proofs.YthhlcecojeaalaaDoor
open Go.RowKit

/-- The first line, and what stands behind its end. -/
def lineL : List UInt8 → Option (List UInt8 × List UInt8)
  | [] => none
  | [_] => none
  | c :: d :: r => if c = 13 ∧ d = 10 then some ([], r) else (lineL (d :: r)).map fun p => (c :: p.1, p.2)
/-- The place of the first line's end from place i on, or -1. -/
def endV (s : ByteArray) (i : Nat) : Int := match lineL (s.data.toList.drop i) with | some p => (i : Int) + p.1.length | none => -1
/-- A chunk's line: the size's digits, its number, its error. -/
def szL (s : ByteArray) : List UInt8 := rdw (cutA s 59).data.toList
def szV (s : ByteArray) : Int := numN 16 15 1152921504606846976 (szL s)
def szB (s : ByteArray) : Bool := (numE 16 15 1152921504606846976 (szL s) == 0) && (!cutOk s 59 || allB txtB (cutZ s 59).data.toList)
def szE (s : ByteArray) : Int := if szB s then (if 65536 < szV s then 4 else 0) else 25
def szN (s : ByteArray) : Int := if szE s = 0 then szV s else 0
/-- The trailer: error, and how many bytes it takes. -/
def trl : Nat → Nat → List UInt8 → Int × List UInt8
  | 0, _, l => (25, l)
  | m + 1, k, l => match lineL l with
    | none => (25, l)
    | some (ln, r) => if ln = [] then (0, r) else if flX (mkS ln) ≠ 0 then (25, l) else if 64 ≤ k then (4, l) else trl m (k + 1) r
/-- Chunks: error, body, what stands behind. -/
def dcd : Nat → List UInt8 → List UInt8 → Int × List UInt8 × List UInt8
  | 0, _, l => (25, [], l)
  | m + 1, b, l => match lineL l with
    | none => (25, [], l)
    | some (ln, r) =>
      if szE (mkS ln) ≠ 0 then (szE (mkS ln), [], l)
      else if szN (mkS ln) = 0 then ((trl (r.length + 1) 0 r).1, (if (trl (r.length + 1) 0 r).1 = 0 then b else []), (trl (r.length + 1) 0 r).2)
      else if 65536 < (b.length : Int) + szN (mkS ln) then (4, [], l)
      else if r.length < (szN (mkS ln)).toNat + 2 ∨ r[(szN (mkS ln)).toNat]? ≠ some 13 ∨ r[(szN (mkS ln)).toNat + 1]? ≠ some 10 then (25, [], l)
      else dcd m (b ++ r.take (szN (mkS ln)).toNat) (r.drop ((szN (mkS ln)).toNat + 2))

def decD (s : ByteArray) : Int × List UInt8 × List UInt8 := dcd (s.size + 1) [] s.data.toList
def decE (s : ByteArray) : Int := (decD s).1
def decB (s : ByteArray) : ByteArray := if (decD s).1 = 0 then mkS (decD s).2.1 else ⟨#[]⟩
def decN (s : ByteArray) : Int := if (decD s).1 = 0 then (s.size : Int) - (decD s).2.2.length else 0
end Go.Proofs.YthhlcecojeaalaaDoor
end

/-
  Rows that 'make' has laid whole and that are stored into, element by element: what such a row holds, a store of an element (of one cell or of many), what the slice on it reads as.
-/
section
namespace Go.Proofs.YthhlcecojeaalaaDoor
open Go.RowKit

/-- Block g is a row of elements, each by its cells. -/
def RowE (w : World) (g e : Nat) (L : List (List Value)) : Prop := w.heap[g]? = some (.cells L.flatten.toArray e (0, 0))

theorem flat_len {m : Nat} : ∀ {L : List (List Value)}, (∀ l ∈ L, l.length = m) → L.flatten.length = L.length * m
  | [], _ => by simp
  | l :: L, h => by
    rw [List.flatten_cons, List.length_append, h l (List.mem_cons_self ..), flat_len (fun x hx => h x (List.mem_cons_of_mem _ hx)), List.length_cons, Nat.add_mul, Nat.one_mul, Nat.add_comm]
theorem flat_take {m : Nat} : ∀ {L : List (List Value)} (k : Nat), (∀ l ∈ L, l.length = m) → L.flatten.take (k * m) = (L.take k).flatten
  | [], k, _ => by simp
  | l :: L, 0, _ => by simp
  | l :: L, k + 1, h => by
    have hl := h l (List.mem_cons_self ..)
    rw [List.flatten_cons, List.take_append, hl, List.take_of_length_le (by rw [hl, Nat.add_mul]; omega), show (k + 1) * m - m = k * m by rw [Nat.add_mul]; omega, flat_take k (fun x hx => h x (List.mem_cons_of_mem _ hx)), List.take_succ_cons, List.flatten_cons]
theorem flat_drop {m : Nat} : ∀ {L : List (List Value)} (k : Nat), (∀ l ∈ L, l.length = m) → L.flatten.drop (k * m) = (L.drop k).flatten
  | [], k, _ => by simp
  | l :: L, 0, _ => by simp
  | l :: L, k + 1, h => by
    have hl := h l (List.mem_cons_self ..)
    rw [List.flatten_cons, List.drop_append, hl, List.drop_of_length_le (by rw [hl, Nat.add_mul]; omega), List.nil_append, show (k + 1) * m - m = k * m by rw [Nat.add_mul]; omega, flat_drop k (fun x hx => h x (List.mem_cons_of_mem _ hx)), List.drop_succ_cons]
theorem flat_set {m : Nat} {L : List (List Value)} {k : Nat} {vs : List Value} (h : ∀ l ∈ L, l.length = m) (hv : vs.length = m) (hk : k < L.length) :
    L.flatten.take (k * m) ++ vs ++ L.flatten.drop (k * m + vs.length) = (L.set k vs).flatten := by
  rw [hv, show k * m + m = (k + 1) * m by rw [Nat.add_mul]; omega, flat_take k h, flat_drop (k + 1) h, List.set_eq_take_append_cons_drop, if_pos hk, List.flatten_append, List.flatten_cons, List.append_assoc]

theorem made_flat (a : List Value) (n : Nat) (h : 0 < a.length) : (madeCells a.toArray (n * a.length)).toList = (List.replicate n a).flatten := by
  refine List.ext_getElem? fun i => ?_
  have hlen : (List.replicate n a).flatten.length = n * a.length := by
    rw [flat_len (m := a.length) (fun l hl => by rw [(List.mem_replicate.1 hl).2]), List.length_replicate]
  by_cases hi : i < n * a.length
  · have h1 : (madeCells a.toArray (n * a.length)).toList[i]? = some (a[i % a.length]'(Nat.mod_lt _ h)) := by
      unfold madeCells
      rw [Array.getElem?_toList, Array.getElem?_map, Array.getElem?_range, if_pos hi]
      simp [Nat.mod_lt i h]
    rw [h1]
    have hq : i / a.length < n := Nat.div_lt_of_lt_mul (by rw [Nat.mul_comm]; exact hi)
    have h2 : (List.replicate n a).flatten.drop (i / a.length * a.length) = (List.replicate (n - i / a.length) a).flatten := by
      rw [flat_drop (m := a.length) _ (fun l hl => by rw [(List.mem_replicate.1 hl).2]), List.drop_replicate]
    have h3 : (List.replicate n a).flatten[i]? = ((List.replicate n a).flatten.drop (i / a.length * a.length))[i % a.length]? := by
      rw [List.getElem?_drop]
      congr 1
      have := Nat.div_add_mod i a.length
      rw [Nat.mul_comm] at this
      omega
    rw [h3, h2]
    obtain ⟨r, hr⟩ : ∃ r, n - i / a.length = r + 1 := ⟨n - i / a.length - 1, by omega⟩
    rw [hr, List.replicate_succ, List.flatten_cons, List.getElem?_append_left (Nat.mod_lt i h), List.getElem?_eq_getElem (Nat.mod_lt i h)]
  · rw [List.getElem?_eq_none (by rw [Array.length_toList, size_madeCells]; omega), List.getElem?_eq_none (by omega)]

/-- 'make([]T, n)'. -/
theorem run_makeE {P : Program} (w : World) (t e : TypeId) (z : Value) (a : List Value) (bytes n : Nat) (ht : P.underlying t = some (.slice e)) (hI : (P.info? e).map (fun i => (i.zero, i.size, i.bytes)) = some (some z, a.length, bytes)) (hz : z.cells = a.toArray) (ha : 0 < a.length)
    (hn : bytes * n ≤ 281474976710656) (hm : n ≤ maxLen) :
    ∃ w', (Instr.makeSlice t (.int .i64 (n : Int)) (.int .i64 (n : Int))).run P w = .ok (.slice (some ⟨w.heap.size, 0, none⟩) n n) w' ∧ RowE w' w.heap.size e (List.replicate n a) ∧ Below w.heap.size w w' := by
  obtain ⟨i0, hi, hz0, hz1, hz2⟩ := info_parts hI
  obtain ⟨w', h1, h2, h3⟩ := run_make_full (P := P) w w.heap.size t e i0 z a.length ht hi hz0 hz1 .i64 .i64 n (by rw [hz2]; exact hn) hm (Nat.le_refl _)
  refine ⟨w', h1, ?_, (Below.refl _ _).grown h3 (Nat.le_refl _) (fun k hk => by cases hk)⟩
  rcases h2.2 with ⟨q, _⟩ | ⟨g, cap, cur, q, _, hg, hnc, hcm, hcs, htk⟩
  · cases q
  · simp only [Value.slice.injEq, Option.some.injEq, Addr.mk.injEq, and_true, true_and] at q
    obtain ⟨rfl, rfl⟩ := q
    show w'.heap[_]? = _
    rw [hg, ← made_flat a n ha, ← hz, ← htk, List.take_of_length_le (by rw [Array.length_toList, hcs]; exact Nat.le_refl _)]

theorem run_storeE {P : Program} (w : World) (g e k m : Nat) (ty : TypeId) (v : Value) (vs : List Value) (hv : v.cells = vs.toArray) (hm : vs.length = m) (hi : (P.info? ty).map (·.size) = some m) (h1 : ∀ u ∈ vs, u.oneCell' = true)
    (L : List (List Value)) (hg : RowE w g e L) (hL : ∀ l ∈ L, l.length = m) (hk : k < L.length) :
    (storeVar ty ⟨g, k * m, none⟩ v).run P w = .ok () (w.setRow g (L.set k vs).flatten.toArray) := by
  have hfl := flat_len hL
  have hle : (k + 1) * m ≤ L.length * m := Nat.mul_le_mul_right _ hk
  have hle2 : k * m + m ≤ L.length * m := by rw [Nat.add_mul] at hle; omega
  have := run_storeCells_at (P := P) g (k * m) e vs 0 L.flatten.toArray w hg (by rw [List.size_toArray, hfl, hm]; omega) h1
  rw [Nat.add_zero, show L.flatten.toArray.toList = L.flatten from rfl, flat_set hL hm hk] at this
  cases hq : P.info? ty with
  | none => simp [hq] at hi
  | some i =>
    have hs : i.size = m := by simpa [hq] using hi
    simp [storeVar, sizeOf, typeInfo, hq, hv, hs, hm, this]

theorem wp_storeE {P : Program} {o : Oper} {a : Act} {w : World} {K : Act → World → Prop} {Q : Exit → Act → World → Prop} (ty : TypeId) (x y : Operand) (ho : o.op = .store ty x y) (ad : Addr) (hx : a.eval x = .pointer (some ad))
    (g e k m : Nat) (had : ad = ⟨g, k * m, none⟩) (v : Value) (hy : a.eval y = v) (vs : List Value) (hv : v.cells = vs.toArray) (hm : vs.length = m) (hi : (P.info? ty).map (·.size) = some m) (h1 : ∀ u ∈ vs, u.oneCell' = true)
    (L : List (List Value)) (hg : RowE w g e L) (hL : ∀ l ∈ L, l.length = m) (hk : k < L.length)
    (h : K (a.put o.dst undef) (w.setRow g (L.set k vs).flatten.toArray)) : o.wp P a w K Q := by
  subst had hy
  unfold Oper.wp execOp
  simp only [ho, hx, Instr.storeAt, Instr.sureAddr, Sem.run_bind, Sem.run_pure, Result.andThen_ok, run_storeE w g e k m ty _ vs hv hm hi h1 L hg hL hk]
  exact h
theorem RowE.set {w : World} {g e : Nat} {L : List (List Value)} (hg : RowE w g e L) (M : List (List Value)) : RowE (w.setRow g M.flatten.toArray) g e M := setRow_heap w g _ _ e _ hg
/-- 'row[k] = v' at the operation, for the walk. -/
theorem wpList_storeE {P : Program} {ops : Array Oper} {rest : List Oper} {o : Oper} {a : Act} {w : World} {Q : Exit → Act → World → Prop} (hgd : o.guard = none) (ty : TypeId) (x y : Operand) (ho : o.op = .store ty x y) (ad : Addr) (hx : a.eval x = .pointer (some ad))
    (g e k m : Nat) (had : ad = ⟨g, k * m, none⟩) (v : Value) (hy : a.eval y = v) (vs : List Value) (hv : v.cells = vs.toArray) (hm : vs.length = m) (hi : (P.info? ty).map (·.size) = some m) (h1 : ∀ u ∈ vs, u.oneCell' = true)
    (L : List (List Value)) (hg : RowE w g e L) (hL : ∀ l ∈ L, l.length = m) (hk : k < L.length) (B : Nat) (w0 : World) (hb : Below B w0 w) (hB : B ≤ g)
    (h : ∀ w', Hid (RowE w' g e (L.set k vs)) → Hid (Below B w0 w') → w'.heap.size = w.heap.size → wpList P ops Q rest (a.put o.dst undef) w') : wpList P ops Q (o :: rest) a w :=
  wpList_plain hgd fun _ hK => wp_storeE ty x y ho ad hx g e k m had v hy vs hv hm hi h1 L hg hL hk (hK _ _ (h _ (hg.set _) (below_setRow hb hB _) (by simp)))
theorem RowE.below {w w' : World} {g e : Nat} {L : List (List Value)} (hg : RowE w g e L) (hb : Below w.heap.size w w') : RowE w' g e L := (hb.block g (Array.getElem?_eq_some_iff.1 hg).1).trans hg
theorem RowE.alloc {w : World} {g e : Nat} {L : List (List Value)} (hg : RowE w g e L) (o : Obj) : RowE (w.alloc o) g e L := (Below.heap_alloc w o g (Array.getElem?_eq_some_iff.1 hg).1).trans hg
theorem RowE.drew {w : World} {g e : Nat} {L : List (List Value)} (hg : RowE w g e L) : RowE w.drew g e L := hg
theorem RowE.lt {w : World} {g e : Nat} {L : List (List Value)} (hg : RowE w g e L) : g < w.heap.size := (Array.getElem?_eq_some_iff.1 hg).1

/-- A store of one more element. -/
theorem set_next {α : Type} (f : α → List Value) (z : List Value) (X : List α) (x : α) (r : Nat) : (X.map f ++ List.replicate (r + 1) z).set X.length (f x) = (X ++ [x]).map f ++ List.replicate r z := by
  rw [List.set_append_right _ _ (by simp), List.length_map, Nat.sub_self, List.replicate_succ, List.set_cons_zero, List.map_append, List.append_assoc]; rfl

/-- What the slices on such rows read as. -/
theorem RowE.slf {w : World} {g e n : Nat} {L : List Fd} (hg : RowE w g e (L.map fun x => [.string x.1, .string x.2])) (hl : L.length = n) (hm : n ≤ maxLen) (hz : ∀ x ∈ L, x.1.size ≤ maxLen ∧ x.2.size ≤ maxLen) : SlF w (some ⟨g, 0, none⟩) n n L := by
  subst hl
  have hf : (L.map fun x => [Value.string x.1, .string x.2]).flatten = fdC L := by unfold fdC; rw [List.flatMap_def]
  have hg : w.heap[g]? = some (.cells (fdC L).toArray e (0, 0)) := by rw [← hf]; exact hg
  refine ⟨rfl, Nat.le_refl _, hm, (fun e => by cases e), fun _ => ⟨_, rfl, fun j x hx => ?_⟩, hz⟩
  have h := fdC_at L j x hx
  rw [addr_add, addr_add, cell_of_row _ _ _ _ _ _ hg, cell_of_row _ _ _ _ _ _ hg]
  simpa using h
theorem RowE.slk {w : World} {g e n : Nat} {L : List Pk} (hg : RowE w g e (L.map fun x => [.string x.n, .bool x.h, .string x.v])) (hl : L.length = n) (hm : n ≤ maxLen) (hz : ∀ x ∈ L, x.n.size ≤ maxLen ∧ x.v.size ≤ maxLen) : SlK w (some ⟨g, 0, none⟩) n n L := by
  subst hl
  have hf : (L.map fun x => [Value.string x.n, .bool x.h, .string x.v]).flatten = pkC L := by unfold pkC; rw [List.flatMap_def]
  have hg : w.heap[g]? = some (.cells (pkC L).toArray e (0, 0)) := by rw [← hf]; exact hg
  refine ⟨rfl, Nat.le_refl _, hm, (fun e => by cases e), fun _ => ⟨_, rfl, fun j x hx => ?_⟩, hz⟩
  have h := pkC_at L j x hx
  rw [addr_add, addr_add, addr_add, cell_of_row _ _ _ _ _ _ hg, cell_of_row _ _ _ _ _ _ hg, cell_of_row _ _ _ _ _ _ hg]
  simpa using h
theorem flat_ones : ∀ L : List (List UInt8), (L.map fun x => [stV x]).flatten = L.map stV
  | [] => rfl
  | a :: r => by rw [List.map_cons, List.flatten_cons, flat_ones r, List.map_cons]; rfl
theorem RowE.sls {w : World} {g e n : Nat} {L : List (List UInt8)} (hg : RowE w g e (L.map fun x => [stV x])) (hl : L.length = n) (hm : n ≤ maxLen) : SlS w (some ⟨g, 0, none⟩) n n L := by
  subst hl
  have hf := flat_ones L
  have hg : w.heap[g]? = some (.cells (L.map stV).toArray e (0, 0)) := by rw [← hf]; exact hg
  refine ⟨rfl, Nat.le_refl _, hm, (fun e => by cases e), fun _ => ⟨_, rfl, fun j x hx => ?_⟩⟩
  rw [addr_add, cell_of_row _ _ _ _ _ _ hg]
  simp only [List.getElem?_toArray, List.getElem?_map, hx]
  rfl

/-- A row's element of two cells, cell by cell; both stored. -/
theorem RowE.at2 {w : World} {g e k : Nat} {L : List (List Value)} {a b : Value} (hg : RowE w g e L) (hL : ∀ l ∈ L, l.length = 2) (hk : L[k]? = some [a, b]) :
    w.cell? ⟨g, k * 2, none⟩ = some a ∧ w.cell? ⟨g, k * 2 + 1, none⟩ = some b ∧ w.frozen? ⟨g, k * 2, none⟩ = false ∧ w.frozen? ⟨g, k * 2 + 1, none⟩ = false := by
  have hd := flat_drop k hL
  have hlt := (List.getElem?_eq_some_iff.1 hk).1
  have he : L.drop k = [a, b] :: L.drop (k + 1) := by rw [List.drop_eq_getElem_cons hlt, (List.getElem?_eq_some_iff.1 hk).2]
  rw [he] at hd
  have h0 : L.flatten[k * 2]? = some a := by
    have := congrArg (fun l => l[0]?) hd
    simpa using this
  have h1 : L.flatten[k * 2 + 1]? = some b := by
    have := congrArg (fun l => l[1]?) hd
    simpa using this
  exact ⟨(cell_of_row _ _ _ _ _ _ hg).trans (by simpa using h0), (cell_of_row _ _ _ _ _ _ hg).trans (by simpa using h1), frozen_of_row _ _ _ _ _ hg, frozen_of_row _ _ _ _ _ hg⟩
theorem RowE.set2 {w : World} {g e k : Nat} {L : List (List Value)} (hg : RowE w g e L) (hL : ∀ l ∈ L, l.length = 2) (hk : k < L.length) (a b : Value) :
    RowE ((w.setCell ⟨g, k * 2, none⟩ a).setCell ⟨g, k * 2 + 1, none⟩ b) g e (L.set k [a, b]) := by
  have h1 := heap_setCell_same w g (k * 2) _ e a hg
  have h2 := heap_setCell_same _ g (k * 2 + 1) _ e b h1
  show _ = _
  rw [h2]
  congr 2
  have hlen := flat_len hL
  have hle : (k + 1) * 2 ≤ L.length * 2 := Nat.mul_le_mul_right _ hk
  rw [← flat_set (vs := [a, b]) hL rfl hk]
  apply Array.ext'
  rw [Array.toList_setIfInBounds, Array.toList_setIfInBounds]
  refine List.ext_getElem? fun i => ?_
  simp only [List.getElem?_set, List.getElem?_append, List.length_take, List.length_append, List.getElem?_take, List.getElem?_drop, List.length_cons, List.length_nil, List.length_set]
  by_cases i0 : i < k * 2
  · rw [if_neg (by omega), if_neg (by omega), if_pos (by omega), if_pos (by omega), if_pos i0]
  · by_cases i1 : i = k * 2
    · subst i1
      rw [if_neg (by omega), if_pos rfl, if_pos (by omega), if_pos (by omega), if_neg (by omega), show k * 2 - min (k * 2) L.flatten.length = 0 by omega]; rfl
    · by_cases i2 : i = k * 2 + 1
      · subst i2
        rw [if_pos rfl, if_pos (by omega), if_pos (by omega), if_neg (by omega), show k * 2 + 1 - min (k * 2) L.flatten.length = 1 by omega]; rfl
      · rw [if_neg (by omega), if_neg (by omega), if_neg (by omega)]
        congr 1; omega
theorem below_pair {B g i j : Nat} {w0 w : World} (hb : Below B w0 w) (hB : B ≤ g) (a b : Value) : Below B w0 ((w.setCell ⟨g, i, none⟩ a).setCell ⟨g, j, none⟩ b) := (hb.setCell hB a).setCell hB b

end Go.Proofs.YthhlcecojeaalaaDoor
end
