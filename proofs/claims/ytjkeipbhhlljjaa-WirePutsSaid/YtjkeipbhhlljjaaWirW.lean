/-
  Contract of the reference's PutText.
-/
import Derived.Test.YtjkeipbhhlljjaaWirV
import Derived.Lib.AppendStr
namespace Go.Proofs.Ytjkeipbhhlljjaa
open Go.RowKit

/-- 'append(out, s...)', s a text. -/
theorem wpList_append_text {P : Program} {ops : Array Oper} {rest : List Oper} {o : Oper} {a : Act} {w : World} {Q : Exit → Act → World → Prop} (hgd : o.guard = none) (s x : Operand) (t u : TypeId)
    (ho : o.op = .call { callee := .builtin .append, args := #[s, x], argTypes := #[t, u] }) (base e : Nat) (ht : P.underlying t = some (.slice e)) (hu : P.underlying u = some .string)
    (hI : (P.info? e).map (fun i => (i.zero, i.size, i.bytes)) = some (some (.int .u8 0), 1, 1)) (v : Value) (hs : a.eval s = v) (X : List UInt8) (hown : Own8 w base e v X)
    (y : ByteArray) (hx : a.eval x = .string y) (hlen : X.length + y.size ≤ 1000000000) (hbase : base ≤ w.heap.size) (w0 : World) (hb : Below base w0 w)
    (h : ∀ v' w', Hid (Own8 w' base e v' (X ++ y.data.toList)) → Below base w0 w' → w.heap.size ≤ w'.heap.size → wpList P ops Q rest (a.put o.dst v') w') : wpList P ops Q (o :: rest) a w := by
  obtain ⟨i0, hi, hz0, hz1, hz2⟩ := info_parts hI
  refine Lib.wpList_append_own_string w hgd s x t u ho base e i0 ht hu hi hz0 hz1 hz2 v _ _ hs hown y hx (by unfold maxLen; omega) (by omega) hbase ?_
  intro v' w' hown' hgrow _
  refine h v' w' ?_ (hb.grown hgrow hbase (fun k hk => (hown.lt k hk).1)) hgrow.size
  show World.ownsRow _ _ _ _ _ _ _
  rw [List.length_append, ← Lib.size_eq, List.map_append]
  exact hown'

theorem put_four (l : List UInt8) (n : Nat) (h : n ≤ 65536) : putE (n : Int) 4 = 0 ∧ putL l (n : Int) 4 = l ++ leL n 4 :=
  put_ok (n := (n : Int)) (k := 4) rfl (by
    have : (256 : Int) ^ ((4 : Int)).toNat = 4294967296 := rfl
    rw [this]
    omega) l

set_option maxHeartbeats 1000000 in
set_option maxRecDepth 100000 in
theorem r_puttext (A : Option Addr) (n c : Nat) (l : List UInt8) (s : ByteArray) (w : World) (h : Sl8 w A n c l) (hl : l.length ≤ 100000) (hs : s.size ≤ maxLen) :
    Calls Try.prog 13 #[.slice A n c, .string s] w (Bytes2 w (ptL l s.data.toList) (ptE s.data.toList)) := by
  unfold maxLen at hs
  have HSZ := Lib.hid (Lib.size_eq s)
  by_cases hb : 65536 < s.size
  · have HG := Lib.hid (pt_long (s := s.data.toList) (by rw [← HSZ.out]; exact hb) l)
    go_enter Try.func13, Try.ntmps13
    go_wp2_with fail
    go_ret2
    rw [HG.out.1, HG.out.2]
    exact ⟨none, 0, 0, rfl, Sl8.none_ _, Below.refl _ _⟩
  · have HG := Lib.hid (pt_ok (s := s.data.toList) (by rw [← HSZ.out]; exact hb) l)
    have HP := Lib.hid (put_four l s.size (by omega))
    go_enter Try.func13, Try.ntmps13
    go_wp2_with fail
    refine (r_put_own A n c l s.size 4 _ h hl (by omega) (by omega) (by omega) (by omega)).mono ?_
    rintro e w1 ⟨v, rfl, hown, hb1⟩
    rw [HP.out.2] at hown
    have hsz := hb1.size
    have HO := Lib.hid hown
    clear hown
    go_wp2_with (at_builtin; refine wpList_append_text rfl _ _ 22 9 rfl w.heap.size 5 Try.underlying22 Try.underlying9 Try.infoU8 _ rfl _ HO.out s rfl (by rw [List.length_append, leL_len]; omega) hsz w hb1 ?_; intro v2 w3 hown3 hbel3 hsz3)
    obtain ⟨A', c', rfl, hA'⟩ := hown3.out.sl8
    go_ret2
    rw [HG.out.1, HG.out.2]
    exact ⟨A', _, c', rfl, by rw [← List.append_assoc, ← HSZ.out]; exact hA', hbel3⟩

end Go.Proofs.Ytjkeipbhhlljjaa
