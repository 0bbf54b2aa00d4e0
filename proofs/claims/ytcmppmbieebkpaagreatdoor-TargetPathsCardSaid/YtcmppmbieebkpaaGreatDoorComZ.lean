/-
  Laws for the walk on bytes of the call's own: append of a text, bytes made with room for more.
-/
import Derived.Test.YtcmppmbieebkpaaGreatDoorComT
import Derived.Test.YtcmppmbieebkpaaGreatDoorComQ
import Derived.Lib.AppendStr
import Derived.Laws.MakeOwn
namespace Go.Proofs.YtcmppmbieebkpaaGreatDoor
open Go.RowKit

/-- 'append(out, s...)', s a text. -/
theorem wpList_append_text {P : Program} {ops : Array Oper} {rest : List Oper} {o : Oper} {a : Act} {w : World} {Q : Exit → Act → World → Prop} (hgd : o.guard = none) (s x : Operand) (t u : TypeId)
    (ho : o.op = .call { callee := .builtin .append, args := #[s, x], argTypes := #[t, u] }) (base e : Nat) (ht : P.underlying t = some (.slice e)) (hu : P.underlying u = some .string)
    (hI : (P.info? e).map (fun i => (i.zero, i.size, i.bytes)) = some (some (.int .u8 0), 1, 1)) (v : Value) (hs : a.eval s = v) (X : List UInt8) (hown : Own8 w base e v X)
    (y : ByteArray) (hx : a.eval x = .string y) (hlen : X.length + y.size ≤ 1000000000) (hbase : base ≤ w.heap.size) (w0 : World) (hb : Below base w0 w)
    (h : ∀ v' w', Hid (Own8 w' base e v' (X ++ y.data.toList)) → Below base w0 w' → w.heap.size ≤ w'.heap.size → wpList P ops Q rest (a.put o.dst v') w') : wpList P ops Q (o :: rest) a w := by
  obtain ⟨i0, hi, hz0, hz1, hz2⟩ := info_parts hI
  refine Lib.wpList_append_own_string w hgd s x t u ho base e i0 ht hu hi hz0 hz1 hz2 v _ _ hs hown y hx (by unfold maxLen; omega) (by omega) hbase ?_
  intro v' w' hown' hgrow _
  refine h v' w' ?_ (hb.grown hgrow hbase (fun k hk => (hown.lt k hk).1)) hgrow.size
  show World.ownsRow _ _ _ _ _ _ _
  rw [List.length_append, ← Lib.size_eq, List.map_append]
  exact hown'

/-- 'make([]byte, 0, n)'. -/
theorem make8 {P : Program} (w : World) (t e : TypeId) (ht : P.underlying t = some (.slice e)) (hI : (P.info? e).map (fun i => (i.zero, i.size, i.bytes)) = some (some (.int .u8 0), 1, 1)) (c : Nat) (hc : c ≤ 1000000000) :
    ∃ w1, (Instr.makeSlice t (.int .i64 0) (.int .i64 (c : Int))).run P w = .ok (.slice (some ⟨w.heap.size, 0, none⟩) 0 c) w1 ∧ Own8 w1 w.heap.size e (.slice (some ⟨w.heap.size, 0, none⟩) 0 c) [] ∧ Below w.heap.size w w1 := by
  obtain ⟨i0, hi, hz0, hz1, hz2⟩ := info_parts hI
  obtain ⟨w1, h1, h2, h3⟩ := run_make_own w w.heap.size t e i0 (.int .u8 0) 1 ht hi hz0 hz1 .i64 .i64 c (by rw [hz2]; omega) (by unfold maxLen; omega) (Nat.le_refl _)
  exact ⟨w1, h1, h2, (Below.refl _ _).grown h3 (Nat.le_refl _) (fun k hk => by cases hk)⟩

end Go.Proofs.YtcmppmbieebkpaaGreatDoor
