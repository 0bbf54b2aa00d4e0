/-
  Texts that the laws of this seat lean on, one behind the other.
-/
import Derived.Test.YtmkjjidilfhojaaDoorMrgI
/-
  Slices of strings: what a slice reads as, nil or not; rows of strings of the call's own, and what is appended to them.
-/
section
namespace Go.Proofs.YtmkjjidilfhojaaDoor
open Go.RowKit

/-- A string as a value. -/
def stV (x : List UInt8) : Value := .string (mkS x)

/-- The slice of n strings at A, of capacity c, reads as L. -/
structure SlS (w : World) (A : Option Addr) (n c : Nat) (L : List (List UInt8)) : Prop where
  len : L.length = n
  cap : n ≤ c
  cm : c ≤ maxLen
  nil : A = none → c = 0
  at_ : 0 < n → ∃ ad, A = some ad ∧ ∀ j x, L[j]? = some x → w.cell? (ad.add j) = some (.string (mkS x))
/-- The slice begins at its block's first cell. -/
def Head (w : World) (A : Option Addr) : Prop := A = none ∨ ∃ g, g < w.heap.size ∧ A = some ⟨g, 0, none⟩

section
variable {w w' : World} {A : Option Addr} {n c : Nat} {L : List (List UInt8)}
theorem SlS.none_ (w : World) : SlS w none 0 0 [] := ⟨rfl, Nat.le_refl _, Nat.zero_le _, fun _ => rfl, fun h => absurd h (by omega)⟩
theorem SlS.none_eq (h : SlS w none n c L) : n = 0 ∧ c = 0 ∧ L = [] := by
  have h1 := h.nil rfl
  have h2 := h.cap
  have h3 := h.len
  exact ⟨by omega, h1, List.eq_nil_of_length_eq_zero (by omega)⟩
theorem SlS.keep (h : SlS w A n c L) (hk : ∀ a u, w.cell? a = some u → w'.cell? a = some u) : SlS w' A n c L :=
  ⟨h.len, h.cap, h.cm, h.nil, fun hn => by
    obtain ⟨ad, e, hc⟩ := h.at_ hn
    exact ⟨ad, e, fun j x hx => hk _ _ (hc j x hx)⟩⟩
theorem SlS.below (h : SlS w A n c L) (hb : Below w.heap.size w w') : SlS w' A n c L := h.keep fun _ _ hu => cell_kept hb hu
theorem SlS.alloc (h : SlS w A n c L) (o : Obj) : SlS (w.alloc o) A n c L := h.keep fun _ _ hu => Lib.cell?_alloc_some o hu
theorem SlS.drew (h : SlS w A n c L) : SlS w.drew A n c L := ⟨h.len, h.cap, h.cm, h.nil, h.at_⟩
theorem SlS.le (h : SlS w A n c L) : L.length ≤ maxLen := by have := h.len; have := h.cap; have := h.cm; omega
theorem SlS.cells {ad : Addr} (h : SlS w (some ad) n c L) : ∀ j x, L[j]? = some x → w.cell? (ad.add j) = some (.string (mkS x)) := fun j x hx => by
  have : j < L.length := (List.getElem?_eq_some_iff.1 hx).1
  obtain ⟨ad', e, hc⟩ := h.at_ (by have := h.len; omega)
  cases e
  exact hc j x hx
theorem SlS.news {ad : Addr} (h : SlS w (some ad) n c L) : ∀ j u, (L.map stV)[j]? = some u → w.cell? (ad.add j) = some u := fun j u hu => by
  rw [List.getElem?_map, Option.map_eq_some_iff] at hu
  obtain ⟨x, hx, rfl⟩ := hu
  exact h.cells j x hx
theorem stV_ones (L : List (List UInt8)) : ∀ u ∈ L.map stV, u.oneCell' = true := fun u hu => by
  obtain ⟨x, _, rfl⟩ := List.mem_map.1 hu
  rfl
theorem Head.below (h : Head w A) (hb : Below w.heap.size w w') : Head w' A := by
  rcases h with h | ⟨g, hg, h⟩
  · exact .inl h
  · exact .inr ⟨g, Nat.lt_of_lt_of_le hg hb.size, h⟩
theorem Head.none_ (w : World) : Head w none := .inl rfl

theorem SlS.of_own {base e : Nat} {v : Value} (h : w.ownsRow base e 1 v n (L.map stV)) : ∃ A c, v = .slice A n c ∧ SlS w A n c L ∧ Head w A := by
  have hl : L.length = n := by have := h.1; simpa using this
  rcases h.2 with ⟨rfl, rfl⟩ | ⟨g, cap, cur, rfl, _, hg, hnc, hcm, hcs, ht⟩
  · obtain rfl : L = [] := List.eq_nil_of_length_eq_zero hl
    exact ⟨_, _, rfl, SlS.none_ w, .inl rfl⟩
  · refine ⟨_, _, rfl, ⟨hl, hnc, hcm, (fun e => by cases e), fun _ => ⟨_, rfl, fun j x hx => ?_⟩⟩, .inr ⟨g, (Array.getElem?_eq_some_iff.1 hg).1, rfl⟩⟩
    refine h.cells (g := g) rfl j (stV x) ?_
    rw [List.getElem?_map, hx]; rfl

/-- What came in. -/
theorem SlS.of_row {z : List ByteArray} (h : (A = none ∧ n = 0 ∧ c = 0 ∧ z = []) ∨ ∃ x, A = some x ∧ n ≤ c ∧ c ≤ maxLen ∧ z.length = c ∧ (∀ i, i < z.length → w.cell? (x.add i) = some (.string (z.getD i ByteArray.empty))) ∧ ∀ s ∈ z, s.size ≤ maxLen) :
    ∃ L, SlS w A n c L ∧ ∀ x ∈ L, x.length ≤ maxLen := by
  rcases h with ⟨rfl, rfl, rfl, rfl⟩ | ⟨ad, rfl, hl, hm, hz, hc, hw⟩
  · exact ⟨[], SlS.none_ w, fun x hx => by cases hx⟩
  · refine ⟨(z.take n).map fun s => s.data.toList, ⟨by rw [List.length_map, List.length_take]; omega, hl, hm, (fun e => by cases e), fun _ => ⟨ad, rfl, fun j x hx => ?_⟩⟩, fun x hx => ?_⟩
    · rw [List.getElem?_map, List.getElem?_take] at hx
      split at hx
      · simp only [Option.map_eq_some_iff] at hx
        obtain ⟨i, hi, rfl⟩ := hx
        obtain ⟨hj, hji⟩ := List.getElem?_eq_some_iff.1 hi
        have : z.getD j ByteArray.empty = i := by simp [List.getD, hi]
        rw [hc j hj, this, mkS_self]
      · cases hx
    · obtain ⟨s, hs, rfl⟩ := List.mem_map.1 hx
      rw [← Lib.size_eq]
      exact hw s (List.mem_of_mem_take hs)
end

/-- Strings in memory of the call's own, from block 'base' on. -/
def OwnS (w : World) (base e : Nat) (v : Value) (X : List (List UInt8)) : Prop := w.ownsRow base e 1 v X.length (X.map stV)
theorem OwnS.sls {w : World} {base e : Nat} {v : Value} {X : List (List UInt8)} (h : OwnS w base e v X) : ∃ A c, v = .slice A X.length c ∧ SlS w A X.length c X ∧ Head w A := SlS.of_own h
theorem OwnS.nil (w : World) (base e : Nat) : OwnS w base e (.slice none 0 0) [] := World.ownsRow_nil _ _ _ _
theorem OwnS.alloc {w : World} {base e : Nat} {v : Value} {X : List (List UInt8)} (h : OwnS w base e v X) (o : Obj) : OwnS (w.alloc o) base e v X := World.ownsRow.alloc h o
theorem OwnS.drew {w : World} {base e : Nat} {v : Value} {X : List (List UInt8)} (h : OwnS w base e v X) : OwnS w.drew base e v X := World.ownsRow.drew h
/-- A call that leaves what was there as it was leaves such a row as it was. -/
theorem ownsRow_below {w w' : World} {base e size n : Nat} {v : Value} {xs : List Value} (h : w.ownsRow base e size v n xs) (hb : Below w.heap.size w w') : w'.ownsRow base e size v n xs := by
  refine ⟨h.1, ?_⟩
  rcases h.2 with h2 | ⟨g, cap, cur, h1, h2, h3, h4, h5, h6, h7⟩
  · exact .inl h2
  · exact .inr ⟨g, cap, cur, h1, h2, (hb.block g (Array.getElem?_eq_some_iff.1 h3).1).trans h3, h4, h5, h6, h7⟩
theorem OwnS.below {w w' : World} {base e : Nat} {v : Value} {X : List (List UInt8)} (h : OwnS w base e v X) (hb : Below w.heap.size w w') : OwnS w' base e v X := ownsRow_below h hb
theorem Own8.below {w w' : World} {base e : Nat} {v : Value} {X : List UInt8} (h : Own8 w base e v X) (hb : Below w.heap.size w w') : Own8 w' base e v X := ownsRow_below h hb
theorem SlS.one (w : World) (t : TypeId) (x : List UInt8) : SlS (w.alloc (.cells #[.string (mkS x)] t)) (some ⟨w.heap.size, 0, none⟩) 1 1 [x] := by
  refine ⟨rfl, Nat.le_refl _, by decide, (fun e => by cases e), fun _ => ⟨_, rfl, fun j y hy => ?_⟩⟩
  rcases j with _ | j
  · simp only [List.getElem?_cons_zero, Option.some.injEq] at hy
    subst hy
    rw [addr_add, cell_of_row _ _ _ _ _ _ (heap_alloc_new w _)]
    rfl
  · simp at hy

theorem SlS.text (w : World) (t : TypeId) (x : ByteArray) : SlS (w.alloc (.cells #[.string x] t)) (some ⟨w.heap.size, 0, none⟩) 1 1 [x.data.toList] := by
  have := SlS.one w t x.data.toList
  rwa [mkS_self] at this

/-- 'append(out, xs...)' on strings: out the call's own, xs any slice, nil or not. -/
theorem wpList_append_sls {P : Program} {ops : Array Oper} {rest : List Oper} {o : Oper} {a : Act} {w : World} {Q : Exit → Act → World → Prop} (hgd : o.guard = none) (s x : Operand) (t : TypeId)
    (ho : o.op = .call { callee := .builtin .append, args := #[s, x], argTypes := #[t, t] }) (base e : Nat) (ht : P.underlying t = some (.slice e))
    (hI : (P.info? e).map (fun i => (i.zero, i.size, i.bytes)) = some (some (.string ByteArray.empty), 1, 16)) (v : Value) (hs : a.eval s = v) (X : List (List UInt8)) (hown : OwnS w base e v X)
    (A : Option Addr) (m c : Nat) (hx : a.eval x = .slice A m c) (Y : List (List UInt8)) (hY : SlS w A m c Y) (hlen : X.length + Y.length ≤ 1000000000) (hbase : base ≤ w.heap.size) (w0 : World) (hb : Below base w0 w)
    (h : ∀ v' w', Hid (OwnS w' base e v' (X ++ Y)) → Below base w0 w' → w.heap.size ≤ w'.heap.size → wpList P ops Q rest (a.put o.dst v') w') : wpList P ops Q (o :: rest) a w := by
  obtain ⟨i0, hi, hz0, hz1, hz2⟩ := info_parts hI
  rcases A with _ | ad
  · obtain ⟨rfl, rfl, rfl⟩ := hY.none_eq
    refine wpList_append_own_none hgd s x t ho base e i0 1 ht hi v _ _ hs hown hx ?_
    exact h v w (by rw [List.append_nil]; exact hown) hb (Nat.le_refl _)
  · have hl := hY.len
    refine wpList_append_own w hgd s x t ho base e i0 (.string ByteArray.empty) 1 16 ht hi hz0 hz1 hz2 rfl (by decide) v _ _ hs hown ad m c (Y.map stV) hx (by rw [List.length_map, hl, Nat.mul_one]) hY.news (stV_ones _) (by unfold maxLen; omega) (by omega) hbase ?_
    intro v' w' hown' hgrow _
    refine h v' w' ?_ (hb.grown hgrow hbase (fun k hk => (hown.lt k hk).1)) hgrow.size
    show World.ownsRow _ _ _ _ _ _ _
    rw [List.length_append, hl, List.map_append]
    exact hown'

theorem SlS.texts (w : World) (t : TypeId) (L : List ByteArray) (hm : L.length ≤ maxLen) : SlS (w.alloc (.cells (L.map Value.string).toArray t)) (some ⟨w.heap.size, 0, none⟩) L.length L.length (L.map fun x => x.data.toList) := by
  refine ⟨by simp, Nat.le_refl _, hm, (fun e => by cases e), fun _ => ⟨_, rfl, fun j y hy => ?_⟩⟩
  rw [List.getElem?_map, Option.map_eq_some_iff] at hy
  obtain ⟨x, hx, rfl⟩ := hy
  rw [addr_add, cell_of_row _ _ _ _ _ _ (heap_alloc_new w _)]
  simp [hx, mkS_self]

/-- A row of strings that a literal makes. -/
theorem OwnS.lit (w : World) (e : TypeId) (X : List (List UInt8)) (cs : Array Value) (hcs : cs = (X.map stV).toArray) (hm : X.length ≤ maxLen) {base : Nat} (hb : base ≤ w.heap.size) : OwnS (w.alloc (.cells cs e)) base e (.slice (some ⟨w.heap.size, 0, none⟩) X.length X.length) X := by
  subst hcs
  have := World.ownsRow_lit (size := 1) (e := e) (base := base) w (X.map stV).toArray X.length hb hm (by simp)
  show World.ownsRow _ _ _ _ _ _ _
  simpa using this

end Go.Proofs.YtmkjjidilfhojaaDoor
end
