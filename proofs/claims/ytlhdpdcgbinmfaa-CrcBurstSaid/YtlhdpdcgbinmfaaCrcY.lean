/-
  Three slices' exclusive or, byte by byte; bits at the program's kinds.
-/
import Derived.Test.YtlhdpdcgbinmfaaCrcX
import Derived.Deep.AppendLies
import Derived.Deep.RegionHeld3
namespace Go.Proofs.Ytlhdpdcgbinmfaa
open Go.RowKit

theorem Sl8.drew {w : World} {A : Option Addr} {n c : Nat} {l : List UInt8} (h : Sl8 w A n c l) : Sl8 w.drew A n c l := ⟨h.len, h.cap, h.cm, h.nil, h.at_⟩

/-- 'append(out, xs...)' on bytes at a step of a region that draws its order: out the call's own, xs not nil. -/
theorem step_append_sl8 {P : Program} {ops : Array Oper} {o : Oper} {a : Act} {w : World} {K : Act → World → Prop} {Q : Exit → Act → World → Prop} {E : Prop} (hgd : o.guard = none) (s x : Operand) (t : TypeId)
    (ho : o.op = .call { callee := .builtin .append, args := #[s, x], argTypes := #[t, t] }) (base e : Nat) (ht : P.underlying t = some (.slice e))
    (hI : (P.info? e).map (fun i => (i.zero, i.size, i.bytes)) = some (some (.int .u8 0), 1, 1)) (v : Value) (hs : a.eval s = v) (X : List UInt8) (hown : Own8 w base e v X)
    (ad : Addr) (m c : Nat) (hx : a.eval x = .slice (some ad) m c) (Y : List UInt8) (hY : Sl8 w (some ad) m c Y) (hm : 0 < m) (hlen : X.length + Y.length ≤ 1000000000) (hbase : base ≤ w.heap.size) (w0 : World) (hb : Below base w0 w)
    (h : ∀ v' w', Hid (Own8 w' base e v' (X ++ Y)) → Below base w0 w' → w.heap.size ≤ w'.heap.size → K (a.put o.dst v') w') :
    if Region.wanted o (yielded ops a.tmps) = true then Oper.wp P o a w K Q else E := by
  obtain ⟨i0, hi, hz0, hz1, hz2⟩ := info_parts hI
  have hl := hY.len
  refine step_append_lies w hgd s x t ho base e i0 (.int .u8 0) 1 1 ht hi hz0 hz1 hz2 rfl (by decide) v _ _ hs hown ad m c (Y.map byV) hx (by rw [List.length_map, hl, Nat.mul_one]) hY.news (byV_ones _) hm (by unfold maxLen; omega) (by omega) hbase _ rfl ?_
  intro g cap w' hown' hgrow _ _
  refine h _ w' ?_ (hb.grown hgrow hbase (fun k hk => (hown.lt k hk).1)) hgrow.size
  show World.ownsRow _ _ _ _ _ _ _
  rw [List.length_append, hl, List.map_append]
  exact hown'

def x3L (a b c : List UInt8) (n : Nat) : List UInt8 := (List.range n).map fun i => a.getD i 0 ^^^ b.getD i 0 ^^^ c.getD i 0
theorem x3_len (a b c : List UInt8) (n : Nat) : (x3L a b c n).length = n := by simp [x3L]
theorem x3_succ (a b c : List UInt8) (n : Nat) {x y z : UInt8} (hx : a[n]? = some x) (hy : b[n]? = some y) (hz : c[n]? = some z) : x3L a b c (n + 1) = x3L a b c n ++ [x ^^^ y ^^^ z] := by
  simp [x3L, List.range_succ, List.getD, hx, hy, hz]
theorem sum_x3 (a b c : List UInt8) (n : Nat) (ha : n ≤ a.length) (hb : n ≤ b.length) (hc : n ≤ c.length) : sumN (x3L a b c n) = sumN (a.take n) ^^^ sumN (b.take n) ^^^ sumN (c.take n) := by
  refine sum_three _ _ _ _ (by simp; omega) (by simp; omega) (by rw [x3_len]; simp; omega) (fun i hi => ?_)
  simp only [List.length_take] at hi
  simp [x3L, List.getElem?_eq_getElem (show i < a.length by omega), List.getElem?_eq_getElem (show i < b.length by omega), List.getElem?_eq_getElem (show i < c.length by omega)]

theorem xor_u8 (a b : UInt8) : bits .xor .u8 (a.toNat : Int) (b.toNat : Int) = ((a ^^^ b).toNat : Int) := by
  rw [u8_xor_nat _ _ a.toNat_lt b.toNat_lt, UInt8.toNat_xor]
theorem xor_i64 (a b : Nat) (ha : a < 4294967296) (hb : b < 4294967296) : bits .xor .i64 (a : Int) (b : Int) = ((a ^^^ b : Nat) : Int) := by
  have h : a ^^^ b < 4294967296 := Nat.xor_lt_two_pow (n := 32) ha hb
  show IntKind.i64.wrap ((BitVec.ofInt 64 (a : Int) ^^^ BitVec.ofInt 64 (b : Int)).toNat : Int) = _
  rw [BitVec.toNat_xor, ofInt_u64 a (by omega), ofInt_u64 b (by omega), IntWalk.i64_in _ (by omega)]

end Go.Proofs.Ytlhdpdcgbinmfaa
