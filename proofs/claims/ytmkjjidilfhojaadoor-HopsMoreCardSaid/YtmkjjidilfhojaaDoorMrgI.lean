/-
  Texts that the laws of this seat lean on, one behind the other.
-/
import Derived.Test.YtmkjjidilfhojaaDoorMrgH
import Derived.Laws.CopyOwn
import Derived.Laws.AppendOwnNone
import Derived.Laws.Tables
/-
  Laws for the walk on arrays of bytes: an array stored into, and read out of, a block that is known whole; the world behind it is a variable.
-/
section
namespace Go.Proofs.YtmkjjidilfhojaaDoor
open Go.RowKit

theorem wpList_store_arr {P : Program} {ops : Array Oper} {rest : List Oper} {o : Oper} {a : Act} {w : World} {Q : Exit → Act → World → Prop} (hgd : o.guard = none) (ty : TypeId) (x y : Operand) (ho : o.op = .store ty x y)
    (g : Nat) (l : List UInt8) (hx : a.eval x = .pointer (some ⟨g, 0, none⟩)) (hy : a.eval y = .agg (l.map byV).toArray)
    (t : TypeId) (old : List UInt8) (hg : Blk8 w g t old) (hi : (P.info? ty).map (·.size) = some l.length) (hold : old.length = l.length) (B : Nat) (w0 : World) (hb : Below B w0 w) (hBg : B ≤ g)
    (h : ∀ w', Hid (Blk8 w' g t l) → Below B w0 w' → w.heap.size ≤ w'.heap.size → wpList P ops Q rest (a.put o.dst undef) w') : wpList P ops Q (o :: rest) a w :=
  wpList_store_row hgd ty x y ho g (l.map byV).toArray hx hy t (old.map byV).toArray hg (by rw [hi]; simp) (by simp [hold]) (by simp; intros; rfl)
    (h _ (setRow_heap w g _ _ t _ hg) (below_setRow hb hBg _) (by simp [World.setRow]))

theorem wpList_load_arr {P : Program} {ops : Array Oper} {rest : List Oper} {o : Oper} {a : Act} {w : World} {Q : Exit → Act → World → Prop} (hgd : o.guard = none) (ty : TypeId) (x : Operand) (ho : o.op = .load ty x)
    (g : Nat) (hx : a.eval x = .pointer (some ⟨g, 0, none⟩)) (t : TypeId) (l : List UInt8) (d : TypeDesc) (hg : Blk8 w g t l)
    (hu : P.underlying ty = some d) (hd : (match d with | .struct _ | .array _ _ => true | _ => false) = true) (hi : (P.info? ty).map (·.size) = some l.length)
    (h : wpList P ops Q rest (a.put o.dst (.agg (l.map byV).toArray)) w) : wpList P ops Q (o :: rest) a w :=
  wpList_load_row hgd ty x ho g hx t (l.map byV).toArray (0, 0) d hg hu hd (by rw [hi]; simp) h

theorem Sls.two {w : World} {A A' : Option Addr} {n c n' c' : Nat} {l l' : List UInt8} (h : Sl8 w A n c l) (h' : Sl8 w A' n' c' l') (t : TypeId) :
    Sls (w.alloc (.cells #[.slice A n c, .slice A' n' c'] t)) w.heap.size [l, l'] := by
  refine ⟨by simp, fun j x hx => ?_⟩
  have hg := heap_alloc_new w (.cells #[.slice A n c, .slice A' n' c'] t)
  rcases j with _ | _ | j
  · simp only [List.getElem?_cons_zero, Option.some.injEq] at hx
    subst hx
    exact ⟨A, n, c, by rw [cell_of_row _ _ _ _ _ _ hg]; rfl, h.alloc _⟩
  · simp only [List.getElem?_cons_succ, List.getElem?_cons_zero, Option.some.injEq] at hx
    subst hx
    exact ⟨A', n', c', by rw [cell_of_row _ _ _ _ _ _ hg]; rfl, h'.alloc _⟩
  · simp at hx
theorem Sls.three {w : World} {A A' A'' : Option Addr} {n c n' c' n'' c'' : Nat} {l l' l'' : List UInt8} (h : Sl8 w A n c l) (h' : Sl8 w A' n' c' l') (h'' : Sl8 w A'' n'' c'' l'') (t : TypeId) :
    Sls (w.alloc (.cells #[.slice A n c, .slice A' n' c', .slice A'' n'' c''] t)) w.heap.size [l, l', l''] := by
  refine ⟨by simp, fun j x hx => ?_⟩
  have hg := heap_alloc_new w (.cells #[.slice A n c, .slice A' n' c', .slice A'' n'' c''] t)
  rcases j with _ | _ | _ | j
  · simp only [List.getElem?_cons_zero, Option.some.injEq] at hx
    subst hx
    exact ⟨A, n, c, by rw [cell_of_row _ _ _ _ _ _ hg]; rfl, h.alloc _⟩
  · simp only [List.getElem?_cons_succ, List.getElem?_cons_zero, Option.some.injEq] at hx
    subst hx
    exact ⟨A', n', c', by rw [cell_of_row _ _ _ _ _ _ hg]; rfl, h'.alloc _⟩
  · simp only [List.getElem?_cons_succ, List.getElem?_cons_zero, Option.some.injEq] at hx
    subst hx
    exact ⟨A'', n'', c'', by rw [cell_of_row _ _ _ _ _ _ hg]; rfl, h''.alloc _⟩
  · simp at hx

/-- Bytes in memory of the call's own, from block 'base' on. -/
def Own8 (w : World) (base e : Nat) (v : Value) (X : List UInt8) : Prop := w.ownsRow base e 1 v X.length (X.map byV)
theorem Own8.sl8 {w : World} {base e : Nat} {v : Value} {X : List UInt8} (h : Own8 w base e v X) : ∃ A c, v = .slice A X.length c ∧ Sl8 w A X.length c X := Sl8.of_own h
theorem Own8.start (w : World) (e : Nat) : Own8 (w.alloc (.cells #[] e)) w.heap.size e (.slice (some ⟨w.heap.size, 0, none⟩) 0 0) [] :=
  World.ownsRow_made w #[] 0 (Nat.le_refl _) (Nat.zero_le _) rfl
theorem Own8.alloc {w : World} {base e : Nat} {v : Value} {X : List UInt8} (h : Own8 w base e v X) (o : Obj) : Own8 (w.alloc o) base e v X := World.ownsRow.alloc h o
theorem Sl8.one (w : World) (t : TypeId) (x : UInt8) {z : Int} (hz : z = (x.toNat : Int)) : Sl8 (w.alloc (.cells #[.int .u8 z] t)) (some ⟨w.heap.size, 0, none⟩) 1 1 [x] := by
  subst hz
  refine ⟨rfl, Nat.le_refl _, by decide, (fun e => by cases e), fun _ => ⟨_, rfl, fun j y hy => ?_⟩⟩
  rcases j with _ | j
  · simp only [List.getElem?_cons_zero, Option.some.injEq] at hy
    subst hy
    rw [addr_add, cell_of_row _ _ _ _ _ _ (heap_alloc_new w _)]
    rfl
  · simp at hy

/-- 'append(out, xs...)' on bytes: out the call's own, xs any slice, nil or not. -/
theorem wpList_append_sl8 {P : Program} {ops : Array Oper} {rest : List Oper} {o : Oper} {a : Act} {w : World} {Q : Exit → Act → World → Prop} (hgd : o.guard = none) (s x : Operand) (t : TypeId)
    (ho : o.op = .call { callee := .builtin .append, args := #[s, x], argTypes := #[t, t] }) (base e : Nat) (ht : P.underlying t = some (.slice e))
    (hI : (P.info? e).map (fun i => (i.zero, i.size, i.bytes)) = some (some (.int .u8 0), 1, 1)) (v : Value) (hs : a.eval s = v) (X : List UInt8) (hown : Own8 w base e v X)
    (A : Option Addr) (m c : Nat) (hx : a.eval x = .slice A m c) (Y : List UInt8) (hY : Sl8 w A m c Y) (hlen : X.length + Y.length ≤ 1000000000) (hbase : base ≤ w.heap.size) (w0 : World) (hb : Below base w0 w)
    (h : ∀ v' w', Hid (Own8 w' base e v' (X ++ Y)) → Below base w0 w' → w.heap.size ≤ w'.heap.size → wpList P ops Q rest (a.put o.dst v') w') : wpList P ops Q (o :: rest) a w := by
  obtain ⟨i0, hi, hz0, hz1, hz2⟩ := info_parts hI
  rcases A with _ | ad
  · obtain ⟨rfl, rfl, rfl⟩ := hY.none_eq
    refine wpList_append_own_none hgd s x t ho base e i0 1 ht hi v _ _ hs hown hx ?_
    exact h v w (by rw [List.append_nil]; exact hown) hb (Nat.le_refl _)
  · have hl := hY.len
    refine wpList_append_own w hgd s x t ho base e i0 (.int .u8 0) 1 1 ht hi hz0 hz1 hz2 rfl (by decide) v _ _ hs hown ad m c (Y.map byV) hx (by rw [List.length_map, hl, Nat.mul_one]) hY.news (byV_ones _) (by unfold maxLen; omega) (by omega) hbase ?_
    intro v' w' hown' hgrow _
    refine h v' w' ?_ (hb.grown hgrow hbase (fun k hk => (hown.lt k hk).1)) hgrow.size
    show World.ownsRow _ _ _ _ _ _ _
    rw [List.length_append, hl, List.map_append]
    exact hown'

theorem Sl8.drew {w : World} {A : Option Addr} {n c : Nat} {l : List UInt8} (h : Sl8 w A n c l) : Sl8 w.drew A n c l := ⟨h.len, h.cap, h.cm, h.nil, h.at_⟩
theorem Sls.drew {w : World} {B : Nat} {L : List (List UInt8)} (h : Sls w B L) : Sls w.drew B L := ⟨h.size, fun j l hj => by
  obtain ⟨A, n, c, h1, h2⟩ := h.part j l hj
  exact ⟨A, n, c, h1, ⟨h2.len, h2.cap, h2.cm, h2.nil, h2.at_⟩⟩⟩

/-- What '[]byte(s)' makes. -/
theorem Sl8.made (w w' : World) (s : ByteArray) (t e : TypeId) (hs : s.size ≤ maxLen) :
    Sl8 (w.alloc (.cells (bytesRow s (grownCap w' s.size 0 e)) t ((bytesRow s (grownCap w' s.size 0 e)).size, (bytesRow s (grownCap w' s.size 0 e)).size + 1))) (some ⟨w.heap.size, 0, none⟩) s.size (grownCap w' s.size 0 e) s.data.toList := by
  have hl : s.size = s.data.toList.length := Lib.size_eq s
  refine ⟨hl.symm, grownCap_ge _ _ _ _, grownCap_le_maxLen _ _ _ _ hs, (fun e => by cases e), fun _ => ⟨_, rfl, fun j x hx => ?_⟩⟩
  obtain ⟨hj, e⟩ := List.getElem?_eq_some_iff.1 hx
  rw [addr_add, World.cell?_alloc_mark, bytesRow_at s _ j (by simpa using hj)]
  subst e
  simp [byV]

end Go.Proofs.YtmkjjidilfhojaaDoor
end
