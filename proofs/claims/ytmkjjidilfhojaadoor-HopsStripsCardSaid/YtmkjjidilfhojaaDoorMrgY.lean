/-
  Texts that the laws of this seat lean on, one behind the other.
-/
import Derived.Test.YtmkjjidilfhojaaDoorMrgS
import Derived.Test.YtmkjjidilfhojaaDoorMrgJ
import Derived.OwnWalk
/-
  Contracts of Quote, unescape and Unquote of package items.
-/
section
namespace Go.Proofs.YtmkjjidilfhojaaDoor
open Go.RowKit

/-- 'make([]byte, 0, n)'. -/
theorem wpList_make8 {P : Program} {w : World} {ops : Array Oper} {rest : List Oper} {o : Oper} {a : Act} {Q : Exit → Act → World → Prop} (hgd : o.guard = none) (l c : Operand) (t : TypeId) (hop : o.op = Op.makeSlice t l c)
    (base e : Nat) (ht : P.underlying t = some (.slice e)) (hI : (P.info? e).map (fun i => (i.zero, i.size, i.bytes)) = some (some (.int .u8 0), 1, 1)) (kl kc : IntKind) (C : Int) (n : Nat) (hl : a.eval l = .int kl 0) (hc : a.eval c = .int kc C) (hC : C = (n : Int)) (hn : n ≤ 4000000000)
    (hbase : base ≤ w.heap.size) (w0 : World) (hb : Below base w0 w) (h : ∀ v' w', Hid (Own8 w' base e v' []) → Below base w0 w' → w.heap.size ≤ w'.heap.size → wpList P ops Q rest (a.put o.dst v') w') : wpList P ops Q (o :: rest) a w := by
  obtain ⟨i0, hi, hz0, hz1, hz2⟩ := info_parts hI
  refine wpList_make_own w hgd l c t hop base e i0 _ 1 ht hi hz0 hz1 kl kc C n hl hc hC (by rw [hz2]; omega) (by unfold maxLen; omega) hbase ?_
  intro w' hown hgrow
  exact h _ w' hown (hb.grown hgrow hbase (fun k hk => by cases hk)) hgrow.size
/-- 'append(out, x)' on bytes, the outcome named. -/
theorem wpList_append_as {P : Program} {ops : Array Oper} {rest : List Oper} {o : Oper} {a : Act} {w : World} {Q : Exit → Act → World → Prop} (hgd : o.guard = none) (s x : Operand) (t : TypeId)
    (ho : o.op = .call { callee := .builtin .append, args := #[s, x], argTypes := #[t, t] }) (base e : Nat) (ht : P.underlying t = some (.slice e))
    (hI : (P.info? e).map (fun i => (i.zero, i.size, i.bytes)) = some (some (.int .u8 0), 1, 1)) (v : Value) (hs : a.eval s = v) (X : List UInt8) (hown : Own8 w base e v X)
    (A : Option Addr) (m c : Nat) (hx : a.eval x = .slice A m c) (Y : List UInt8) (hY : Sl8 w A m c Y) (Z : List UInt8) (hZ : Hid (X ++ Y = Z)) (hlen : X.length + Y.length ≤ 1000000000) (hbase : base ≤ w.heap.size) (w0 : World) (hb : Below base w0 w)
    (h : ∀ v' w', Hid (Own8 w' base e v' Z) → Below base w0 w' → w.heap.size ≤ w'.heap.size → wpList P ops Q rest (a.put o.dst v') w') : wpList P ops Q (o :: rest) a w := by
  have := hZ.out
  subst this
  exact wpList_append_sl8 hgd s x t ho base e ht hI v hs X hown A m c hx Y hY hlen hbase w0 hb h

theorem unesc_esc (s : ByteArray) (k : Nat) (h : k < s.size) (hi : inn 1 (s.data.toList.drop k) = true) (hc : s[k] = 92) :
    ∃ h2 : k + 1 < s.size, inn 1 (s.data.toList.drop (k + 2)) = true ∧ unesc 1 (s.data.toList.drop k) = s[k + 1] :: unesc 1 (s.data.toList.drop (k + 2)) := by
  rw [drop_at s k h, hc] at hi ⊢
  simp only [inn, nxt_esc, Bool.and_eq_true] at hi
  have h2 : k + 1 < s.size := by
    refine Classical.byContradiction fun hn => ?_
    rw [List.drop_eq_nil_of_le (by rw [← Lib.size_eq]; omega)] at hi
    simp [inn] at hi
  refine ⟨h2, ?_⟩
  rw [drop_at s (k + 1) h2] at hi ⊢
  simp only [inn, nxt_two, Bool.and_eq_true] at hi
  refine ⟨hi.2.2, ?_⟩
  simp [unesc]
theorem unesc_in (s : ByteArray) (k : Nat) (h : k < s.size) (hi : inn 1 (s.data.toList.drop k) = true) (hc : s[k] ≠ 92) :
    inn 1 (s.data.toList.drop (k + 1)) = true ∧ unesc 1 (s.data.toList.drop k) = s[k] :: unesc 1 (s.data.toList.drop (k + 1)) := by
  rw [drop_at s k h] at hi ⊢
  simp only [inn, Bool.and_eq_true, decide_eq_true_eq] at hi
  have h34 : s[k] ≠ 34 := fun e => by rw [e] at hi; exact hi.1 nxt_close
  rw [nxt_in h34 hc] at hi
  exact ⟨hi.2, by simp [unesc, hc]⟩

theorem unq_empty (l : List UInt8) (h : l = []) : unqO l = [] ∧ unqE l = 5 := by subst h; exact ⟨rfl, rfl⟩
theorem unq_head (s : ByteArray) (h : 0 < s.size) (hc : s[0] ≠ 34) : unqO s.data.toList = [] ∧ unqE s.data.toList = 5 := by
  have e := drop_at s 0 h
  rw [List.drop_zero] at e
  have : unqL s.data.toList = none := by rw [e]; simp [unqL, hc]
  simp [unqO, unqE, this]
theorem unq_at (s : ByteArray) (h : 0 < s.size) (hc : s[0] = 34) : unqL s.data.toList = if qPos s 1 = some s.size then some (unesc 1 (s.data.toList.drop 1).dropLast) else none := by
  have e := drop_at s 0 h
  rw [List.drop_zero, hc] at e
  have hl : (s.data.toList.drop 1).length + 1 = s.size := by rw [List.length_drop, ← Lib.size_eq]; omega
  have e2 : unqL s.data.toList = unqR 1 [] (s.data.toList.drop 1) := by
    rw [e]; simp [unqL]
  rw [e2, unq_qEnd _ 1 _ (.inl rfl), List.nil_append]
  have hi : qPos s 1 = some s.size ↔ qEnd 1 (s.data.toList.drop 1) = some (s.data.toList.drop 1).length := by
    unfold qPos
    rw [Option.map_eq_some_iff]
    constructor
    · rintro ⟨a, ha, hb⟩
      rw [ha]; congr 1; omega
    · intro h
      exact ⟨_, h, by omega⟩
  by_cases hx : qPos s 1 = some s.size
  · rw [if_pos hx, if_pos (hi.1 hx)]
  · rw [if_neg hx, if_neg (fun h => hx (hi.2 h))]
theorem unq_good (s : ByteArray) (h : 0 < s.size) (hc : s[0] = 34) (hq : qPos s 1 = some s.size) :
    2 ≤ s.size ∧ inn 1 (s.extract 1 (s.size - 1)).data.toList = true ∧ unqO s.data.toList = unesc 1 (s.extract 1 (s.size - 1)).data.toList ∧ unqE s.data.toList = 0 := by
  have e := unq_at s h hc
  rw [if_pos hq] at e
  have h2 := qPos_le s 1 _ hq
  have hp : (s.extract 1 (s.size - 1)).data.toList = (s.data.toList.drop 1).dropLast := by
    rw [piece_ext, mkS_list, List.dropLast_eq_take]
    unfold piece
    congr 1
    rw [List.length_drop, ← Lib.size_eq]
  rw [hp]
  refine ⟨by omega, ?_, by simp [unqO, e], by simp [unqE, e]⟩
  refine inn_qEnd _ 1 (.inl rfl) ?_
  unfold qPos at hq
  rw [Option.map_eq_some_iff] at hq
  obtain ⟨a, ha, hb⟩ := hq
  rw [ha, List.length_drop, ← Lib.size_eq]
  congr 1; omega
theorem unq_miss (s : ByteArray) (h : 0 < s.size) (hc : s[0] = 34) (hq : qPos s 1 ≠ some s.size) : unqO s.data.toList = [] ∧ unqE s.data.toList = 5 := by
  have e := unq_at s h hc
  rw [if_neg hq] at e
  simp [unqO, unqE, e]

theorem not_empty (s : ByteArray) (h : 0 < s.size) : s.toList.isEmpty = false := by
  rw [Lib.toList_data]
  cases hl : s.data.toList with
  | nil =>
    have := Lib.size_eq s
    rw [hl, List.length_nil] at this
    omega
  | cons a r => rfl
theorem empty_list (s : ByteArray) (h : ¬ 0 < s.size) : s.data.toList = [] := List.eq_nil_of_length_eq_zero (by rw [← Lib.size_eq]; omega)

end Go.Proofs.YtmkjjidilfhojaaDoor
end
