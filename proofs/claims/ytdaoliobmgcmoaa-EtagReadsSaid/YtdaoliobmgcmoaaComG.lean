/-
  Slices of structs of a flag and a text (entity tags): what a slice reads as, nil or not; rows of the call's own, and what is appended to them.
-/
import Derived.Test.YtdaoliobmgcmoaaComF
namespace Go.Proofs.Ytdaoliobmgcmoaa
open Go.RowKit Go.ChangeShapes Go.WideShapes

/-- A tag: weak or not, and its text. -/
abbrev Tg := Bool × ByteArray
def tgV (x : Tg) : Value := .agg #[.bool x.1, .string x.2]
def tgC (L : List Tg) : List Value := L.flatMap fun x => [.bool x.1, .string x.2]
theorem tgC_nil : tgC [] = [] := rfl
theorem tgC_cons (x : Tg) (L : List Tg) : tgC (x :: L) = .bool x.1 :: .string x.2 :: tgC L := rfl
theorem tgC_append (L M : List Tg) : tgC (L ++ M) = tgC L ++ tgC M := by simp [tgC]
theorem tgC_len : ∀ L : List Tg, (tgC L).length = L.length * 2
  | [] => rfl
  | x :: L => by rw [tgC_cons, List.length_cons, List.length_cons, tgC_len L, List.length_cons]; omega
theorem tgC_at : ∀ (L : List Tg) (j : Nat) (x : Tg), L[j]? = some x → (tgC L)[j * 2]? = some (.bool x.1) ∧ (tgC L)[j * 2 + 1]? = some (.string x.2)
  | [], j, x, h => by simp at h
  | y :: L, 0, x, h => by
    simp only [List.getElem?_cons_zero, Option.some.injEq] at h
    subst h
    exact ⟨rfl, rfl⟩
  | y :: L, j + 1, x, h => by
    rw [List.getElem?_cons_succ] at h
    have := tgC_at L j x h
    rw [tgC_cons, show (j + 1) * 2 = j * 2 + 1 + 1 by omega, show j * 2 + 1 + 1 + 1 = (j * 2 + 1) + 1 + 1 by omega]
    simpa using this
theorem tgC_ones (L : List Tg) : ∀ u ∈ tgC L, u.oneCell' = true := fun u hu => by
  obtain ⟨x, _, hx⟩ := List.mem_flatMap.1 hu
  simp only [List.mem_cons, List.not_mem_nil, or_false] at hx
  rcases hx with rfl | rfl <;> rfl
theorem tgC_of (L : List Tg) (j : Nat) (u : Value) (h : (tgC L)[j]? = some u) : ∃ x, L[j / 2]? = some x ∧ ((j % 2 = 0 ∧ u = .bool x.1) ∨ (j % 2 = 1 ∧ u = .string x.2)) := by
  have hj : j < (tgC L).length := (List.getElem?_eq_some_iff.1 h).1
  rw [tgC_len] at hj
  have hlt : j / 2 < L.length := by omega
  refine ⟨L[j / 2], List.getElem?_eq_getElem hlt, ?_⟩
  have hx := tgC_at L (j / 2) _ (List.getElem?_eq_getElem hlt)
  rcases Nat.mod_two_eq_zero_or_one j with e | e
  · rw [show j / 2 * 2 = j by omega, h] at hx
    exact .inl ⟨e, by simpa using hx.1⟩
  · rw [show j / 2 * 2 + 1 = j by omega, h] at hx
    exact .inr ⟨e, by simpa using hx.2⟩

/-- The slice of n tags at A, of capacity c, reads as L. -/
structure SlT (w : World) (A : Option Addr) (n c : Nat) (L : List Tg) : Prop where
  len : L.length = n
  cap : n ≤ c
  cm : c ≤ maxLen
  nil : A = none → c = 0
  at_ : 0 < n → ∃ ad, A = some ad ∧ ∀ j x, L[j]? = some x → w.cell? (ad.add (j * 2)) = some (.bool x.1) ∧ w.cell? (ad.add (j * 2 + 1)) = some (.string x.2)
  sz : ∀ x ∈ L, x.2.size ≤ maxLen

section
variable {w w' : World} {A : Option Addr} {n c : Nat} {L : List Tg}
theorem SlT.none_ (w : World) : SlT w none 0 0 [] := ⟨rfl, Nat.le_refl _, Nat.zero_le _, fun _ => rfl, fun h => absurd h (by omega), fun _ h => by cases h⟩
theorem SlT.none_eq (h : SlT w none n c L) : n = 0 ∧ c = 0 ∧ L = [] := by
  have h1 := h.nil rfl
  have h2 := h.cap
  have h3 := h.len
  exact ⟨by omega, h1, List.eq_nil_of_length_eq_zero (by omega)⟩
theorem SlT.keep (h : SlT w A n c L) (hk : ∀ a u, w.cell? a = some u → w'.cell? a = some u) : SlT w' A n c L :=
  ⟨h.len, h.cap, h.cm, h.nil, fun hn => by
    obtain ⟨ad, e, hc⟩ := h.at_ hn
    exact ⟨ad, e, fun j x hx => ⟨hk _ _ (hc j x hx).1, hk _ _ (hc j x hx).2⟩⟩, h.sz⟩
theorem SlT.below (h : SlT w A n c L) (hb : Below w.heap.size w w') : SlT w' A n c L := h.keep fun _ _ hu => cell_kept hb hu
theorem SlT.alloc (h : SlT w A n c L) (o : Obj) : SlT (w.alloc o) A n c L := h.keep fun _ _ hu => Lib.cell?_alloc_some o hu
theorem SlT.drew (h : SlT w A n c L) : SlT w.drew A n c L := ⟨h.len, h.cap, h.cm, h.nil, h.at_, h.sz⟩
theorem SlT.le (h : SlT w A n c L) : L.length ≤ maxLen := by have := h.len; have := h.cap; have := h.cm; omega
theorem SlT.cells {ad : Addr} (h : SlT w (some ad) n c L) : ∀ j x, L[j]? = some x → w.cell? (ad.add (j * 2)) = some (.bool x.1) ∧ w.cell? (ad.add (j * 2 + 1)) = some (.string x.2) := fun j x hx => by
  have : j < L.length := (List.getElem?_eq_some_iff.1 hx).1
  obtain ⟨ad', e, hc⟩ := h.at_ (by have := h.len; omega)
  cases e
  exact hc j x hx
theorem SlT.news {ad : Addr} (h : SlT w (some ad) n c L) : ∀ j u, (tgC L)[j]? = some u → w.cell? (ad.add j) = some u := fun j u hu => by
  obtain ⟨x, hx, hj⟩ := tgC_of L j u hu
  have hc := h.cells _ x hx
  rcases hj with ⟨e, rfl⟩ | ⟨e, rfl⟩
  · rw [show j / 2 * 2 = j by omega] at hc; exact hc.1
  · rw [show j / 2 * 2 + 1 = j by omega] at hc; exact hc.2

theorem SlT.of_own {base e : Nat} {v : Value} (h : w.ownsRow base e 2 v n (tgC L)) (hz : ∀ x ∈ L, x.2.size ≤ maxLen) : ∃ A c, v = .slice A n c ∧ SlT w A n c L := by
  have hl : L.length = n := by have := h.1; rw [tgC_len] at this; omega
  rcases h.2 with ⟨rfl, rfl⟩ | ⟨g, cap, cur, rfl, _, hg, hnc, hcm, hcs, ht⟩
  · obtain rfl : L = [] := List.eq_nil_of_length_eq_zero hl
    exact ⟨_, _, rfl, SlT.none_ w⟩
  · exact ⟨_, _, rfl, hl, hnc, hcm, (fun e => by cases e), (fun _ => ⟨_, rfl, fun j x hx => ⟨h.cells (g := g) rfl _ _ (tgC_at L j x hx).1, h.cells (g := g) rfl _ _ (tgC_at L j x hx).2⟩⟩), hz⟩

end

/-- A block of one tag. -/
theorem SlT.one (w : World) (t : TypeId) (x : Tg) (hz : x.2.size ≤ maxLen) : SlT (w.alloc (.cells #[.bool x.1, .string x.2] t)) (some ⟨w.heap.size, 0, none⟩) 1 1 [x] := by
  refine ⟨rfl, Nat.le_refl _, by decide, (fun e => by cases e), fun _ => ⟨_, rfl, fun j y hy => ?_⟩, fun y hy => ?_⟩
  · rcases j with _ | j
    · simp only [List.getElem?_cons_zero, Option.some.injEq] at hy
      subst hy
      rw [addr_add, addr_add, cell_of_row _ _ _ _ _ _ (heap_alloc_new w _), cell_of_row _ _ _ _ _ _ (heap_alloc_new w _)]
      exact ⟨rfl, rfl⟩
    · simp at hy
  · simp only [List.mem_singleton] at hy
    subst hy
    exact hz

/-- Tags in memory of the call's own, from block 'base' on. -/
def OwnT (w : World) (base e : Nat) (v : Value) (X : List Tg) : Prop := w.ownsRow base e 2 v X.length (tgC X)
theorem OwnT.slt {w : World} {base e : Nat} {v : Value} {X : List Tg} (h : OwnT w base e v X) (hz : ∀ x ∈ X, x.2.size ≤ maxLen) : ∃ A c, v = .slice A X.length c ∧ SlT w A X.length c X := SlT.of_own h hz
theorem OwnT.form {w : World} {base e : Nat} {v : Value} {X : List Tg} (h : OwnT w base e v X) : ∃ A c, v = .slice A X.length c := by
  rcases h.2 with ⟨rfl, h0⟩ | ⟨g, cap, cur, rfl, _⟩
  · exact ⟨none, 0, by rw [h0]⟩
  · exact ⟨_, _, rfl⟩
theorem OwnT.nil (w : World) (base e : Nat) : OwnT w base e (.slice none 0 0) [] := World.ownsRow_nil _ _ _ _
theorem OwnT.alloc {w : World} {base e : Nat} {v : Value} {X : List Tg} (h : OwnT w base e v X) (o : Obj) : OwnT (w.alloc o) base e v X := World.ownsRow.alloc h o
theorem OwnT.drew {w : World} {base e : Nat} {v : Value} {X : List Tg} (h : OwnT w base e v X) : OwnT w.drew base e v X := World.ownsRow.drew h
theorem OwnT.below {w w' : World} {base e : Nat} {v : Value} {X : List Tg} (h : OwnT w base e v X) (hb : Below w.heap.size w w') : OwnT w' base e v X := ownsRow_below h hb

theorem OwnT.wide {w : World} {base base' e : Nat} {v : Value} {X : List Tg} (h : OwnT w base e v X) (hb : base' ≤ base) : OwnT w base' e v X := by
  refine ⟨h.1, ?_⟩
  rcases h.2 with h2 | ⟨g, cap, cur, h1, h2, h3⟩
  · exact .inl h2
  · exact .inr ⟨g, cap, cur, h1, by omega, h3⟩

/-- 'append(out, xs...)' on tags: out the call's own, xs any slice, nil or not. -/
theorem wpList_append_slt {P : Program} {ops : Array Oper} {rest : List Oper} {o : Oper} {a : Act} {w : World} {Q : Exit → Act → World → Prop} (hgd : o.guard = none) (s x : Operand) (t : TypeId)
    (ho : o.op = .call { callee := .builtin .append, args := #[s, x], argTypes := #[t, t] }) (base e : Nat) (ht : P.underlying t = some (.slice e))
    (hI : (P.info? e).map (fun i => (i.zero, i.size, i.bytes)) = some (some (.agg #[.bool false, .string ⟨#[]⟩]), 2, 24)) (v : Value) (hs : a.eval s = v) (X : List Tg) (hown : OwnT w base e v X)
    (A : Option Addr) (m c : Nat) (hx : a.eval x = .slice A m c) (Y : List Tg) (hY : SlT w A m c Y) (hlen : X.length + Y.length ≤ 1000000000) (hbase : base ≤ w.heap.size) (w0 : World) (hb : Below base w0 w)
    (h : ∀ v' w', Hid (OwnT w' base e v' (X ++ Y)) → Below base w0 w' → w.heap.size ≤ w'.heap.size → wpList P ops Q rest (a.put o.dst v') w') : wpList P ops Q (o :: rest) a w := by
  obtain ⟨i0, hi, hz0, hz1, hz2⟩ := info_parts hI
  rcases A with _ | ad
  · obtain ⟨rfl, rfl, rfl⟩ := hY.none_eq
    refine wpList_append_own_none hgd s x t ho base e i0 2 ht hi v _ _ hs hown hx ?_
    exact h v w (by rw [List.append_nil]; exact hown) hb (Nat.le_refl _)
  · have hl := hY.len
    refine wpList_append_own w hgd s x t ho base e i0 (.agg #[.bool false, .string ⟨#[]⟩]) 2 24 ht hi hz0 hz1 hz2 rfl (by decide) v _ _ hs hown ad m c (tgC Y) hx (by rw [tgC_len, hl]) hY.news (tgC_ones _) (by unfold maxLen; omega) (by omega) hbase ?_
    intro v' w' hown' hgrow _
    refine h v' w' ?_ (hb.grown hgrow hbase (fun k hk => (hown.lt k hk).1)) hgrow.size
    show World.ownsRow _ _ _ _ _ _ _
    rw [List.length_append, hl, tgC_append]
    exact hown'


end Go.Proofs.Ytdaoliobmgcmoaa
