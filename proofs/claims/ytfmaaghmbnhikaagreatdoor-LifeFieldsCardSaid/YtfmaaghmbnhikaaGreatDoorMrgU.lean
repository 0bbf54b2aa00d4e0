/-
  Texts that the laws of this seat lean on, one behind the other.
-/
import Derived.Test.YtfmaaghmbnhikaaGreatDoorMrgS
import Derived.Test.YtfmaaghmbnhikaaGreatDoorMrgG
import Derived.OwnWalk
import Derived.Test.YtfmaaghmbnhikaaGreatDoorMrgK
import Derived.Test.YtfmaaghmbnhikaaGreatDoorMrgL
import Derived.Test.YtfmaaghmbnhikaaGreatDoorMrgM
/-
  Contracts of Quote, unescape and Unquote of package items.
-/
section
namespace Go.Proofs.YtfmaaghmbnhikaaGreatDoor
open Go.RowKit

/-- 'make([]byte, 0, n)'. -/
theorem wpList_make8 {P : Program} {w : World} {ops : Array Oper} {rest : List Oper} {o : Oper} {a : Act} {Q : Exit → Act → World → Prop} (hgd : o.guard = none) (l c : Operand) (t : TypeId) (hop : o.op = Op.makeSlice t l c)
    (base e : Nat) (ht : P.underlying t = some (.slice e)) (hI : (P.info? e).map (fun i => (i.zero, i.size, i.bytes)) = some (some (.int .u8 0), 1, 1)) (kl kc : IntKind) (C : Int) (n : Nat) (hl : a.eval l = .int kl 0) (hc : a.eval c = .int kc C) (hC : C = (n : Int)) (hn : n ≤ 4000000000)
    (hbase : base ≤ w.heap.size) (w0 : World) (hb : Below base w0 w) (h : ∀ v' w', Hid (Own8 w' base e v' []) → Below base w0 w' → w.heap.size ≤ w'.heap.size → wpList P ops Q rest (a.put o.dst v') w') : wpList P ops Q (o :: rest) a w := by
  obtain ⟨i0, hi, hz0, hz1, hz2⟩ := info_parts hI
  refine wpList_make_own w hgd l c t hop base e i0 _ 1 ht hi hz0 hz1 kl kc C n hl hc hC (by rw [hz2]; omega) (by unfold maxLen; omega) hbase ?_
  intro w' hown hgrow
  exact h _ w' hown (hb.grown hgrow hbase (fun k hk => by cases hk)) hgrow.size
/-- 'append(out, x)' on bytes, the outcome named. -/
theorem wpList_append_as {P : Program} {ops : Array Oper} {rest : List Oper} {o : Oper} {a : Act} {w : World} {Q : Exit → Act → World → Prop} (hgd : o.guard = none) (s x : Operand) (t : TypeId)
    (ho : o.op = .call { callee := .builtin .append, args := #[s, x], argTypes := #[t, t] }) (base e : Nat) (ht : P.underlying t = some (.slice e))
    (hI : (P.info? e).map (fun i => (i.zero, i.size, i.bytes)) = some (some (.int .u8 0), 1, 1)) (v : Value) (hs : a.eval s = v) (X : List UInt8) (hown : Own8 w base e v X)
    (A : Option Addr) (m c : Nat) (hx : a.eval x = .slice A m c) (Y : List UInt8) (hY : Sl8 w A m c Y) (Z : List UInt8) (hZ : Hid (X ++ Y = Z)) (hlen : X.length + Y.length ≤ 1000000000) (hbase : base ≤ w.heap.size) (w0 : World) (hb : Below base w0 w)
    (h : ∀ v' w', Hid (Own8 w' base e v' Z) → Below base w0 w' → w.heap.size ≤ w'.heap.size → wpList P ops Q rest (a.put o.dst v') w') : wpList P ops Q (o :: rest) a w := by
  have := hZ.out
  subst this
  exact wpList_append_sl8 hgd s x t ho base e ht hI v hs X hown A m c hx Y hY hlen hbase w0 hb h

theorem unesc_esc (s : ByteArray) (k : Nat) (h : k < s.size) (hi : inn 1 (s.data.toList.drop k) = true) (hc : s[k] = 92) :
    ∃ h2 : k + 1 < s.size, inn 1 (s.data.toList.drop (k + 2)) = true ∧ unesc 1 (s.data.toList.drop k) = s[k + 1] :: unesc 1 (s.data.toList.drop (k + 2)) := by
  rw [drop_at s k h, hc] at hi ⊢
  simp only [inn, nxt_esc, Bool.and_eq_true] at hi
  have h2 : k + 1 < s.size := by
    refine Classical.byContradiction fun hn => ?_
    rw [List.drop_eq_nil_of_le (by rw [← Lib.size_eq]; omega)] at hi
    simp [inn] at hi
  refine ⟨h2, ?_⟩
  rw [drop_at s (k + 1) h2] at hi ⊢
  simp only [inn, nxt_two, Bool.and_eq_true] at hi
  refine ⟨hi.2.2, ?_⟩
  simp [unesc]
theorem unesc_in (s : ByteArray) (k : Nat) (h : k < s.size) (hi : inn 1 (s.data.toList.drop k) = true) (hc : s[k] ≠ 92) :
    inn 1 (s.data.toList.drop (k + 1)) = true ∧ unesc 1 (s.data.toList.drop k) = s[k] :: unesc 1 (s.data.toList.drop (k + 1)) := by
  rw [drop_at s k h] at hi ⊢
  simp only [inn, Bool.and_eq_true, decide_eq_true_eq] at hi
  have h34 : s[k] ≠ 34 := fun e => by rw [e] at hi; exact hi.1 nxt_close
  rw [nxt_in h34 hc] at hi
  exact ⟨hi.2, by simp [unesc, hc]⟩

theorem unescape_any (s : ByteArray) (w : World) (hs : s.size ≤ 100000000) (hi : inn 1 s.data.toList = true) :
    Calls Tryz.prog 171 #[.string s] w fun e w' => e = .returned (.string (mkS (unesc 1 s.data.toList))) ∧ Below w.heap.size w w' := by
  have HI := Lib.hid hi
  obtain ⟨R, hR⟩ : ∃ R, R = unesc 1 s.data.toList := ⟨_, rfl⟩
  rw [← hR]
  have HR := Lib.hid hR
  clear hR hi
  go_enter Tryz.func171, Tryz.ntmps171
  go_wp2_with (first
    | (at_make; refine wpList_make8 rfl _ _ _ rfl w.heap.size 5 Tryz.underlying124 (by kernel_rfl) _ _ _ s.size rfl rfl (by omega) (by omega) (Nat.le_refl _) w (Below.refl _ _) ?_; intro v1 w1 ho1 hb1 hz1))
  go_loopw [3, 4] (fun v i wr => ∃ (k : Nat) (X : List UInt8), k ≤ s.size ∧ X.length ≤ k ∧ i = .int .i64 k ∧ Hid (Own8 wr w.heap.size 5 v X) ∧ Hid (inn 1 (s.data.toList.drop k) = true) ∧ Hid (R = X ++ unesc 1 (s.data.toList.drop k)) ∧ Below w.heap.size w wr) (fun _ i _ => s.size - (intOf i).toNat)
  case atStart => exact ⟨0, [], Nat.zero_le _, by simp, rfl, ho1, HI, by show _ = _; rw [HR.out]; rfl, hb1⟩
  case round =>
    clear HI HR ho1 hb1 hz1
    obtain ⟨k, X, hk, hXk, rfl, ho, hin, hun, hbel⟩ := hrel
    have hzr := hbel.size
    by_cases hlt : k < s.size
    · by_cases e1 : ((s[k].toNat : Int) == 92) = true
      · obtain ⟨h2, h3, h4⟩ := unesc_esc s k hlt hin.out (byte_eq (n := 92) (by omega) e1)
        have HIN := Lib.hid h3
        obtain ⟨Z, hZ⟩ : ∃ Z, Z = X ++ [s[k + 1]] := ⟨_, rfl⟩
        have HUN : Hid (R = Z ++ unesc 1 (s.data.toList.drop (k + 2))) := by
          show _ = _
          rw [hun.out, h4, hZ]; simp
        have hZk : Z.length ≤ k + 2 := by rw [hZ]; simp; omega
        have HXZ : Hid (X ++ [s[k + 1]] = Z) := hZ.symm
        clear hZ h3 h4 hin hun
        go_wp2_with (at_builtin; refine wpList_append_as rfl _ _ _ rfl w.heap.size 5 Tryz.underlying124 (by kernel_rfl) _ rfl X (ho.out.alloc _) _ _ _ rfl [s[k + 1]] (Sl8.one _ _ _ rfl) Z HXZ (by simp; omega) (by simp; omega) w (hbel.alloc hzr _) ?_; intro v1 w1 ho1 hb1 hz1)
        go_roundw
        case rel => exact ⟨k + 2, Z, by omega, hZk, by go_num, ho1, HIN, HUN, hb1⟩
        case measure => simp [intOf]; omega
      · have e1' : ((s[k].toNat : Int) == 92) = false := by simpa using e1
        obtain ⟨h3, h4⟩ := unesc_in s k hlt hin.out (byte_ne (n := 92) (by omega) e1')
        have HIN := Lib.hid h3
        obtain ⟨Z, hZ⟩ : ∃ Z, Z = X ++ [s[k]] := ⟨_, rfl⟩
        have HUN : Hid (R = Z ++ unesc 1 (s.data.toList.drop (k + 1))) := by
          show _ = _
          rw [hun.out, h4, hZ]; simp
        have hZk : Z.length ≤ k + 1 := by rw [hZ]; simp; omega
        have HXZ : Hid (X ++ [s[k]] = Z) := hZ.symm
        clear hZ h3 h4 hin hun e1
        go_wp2_with (at_builtin; refine wpList_append_as rfl _ _ _ rfl w.heap.size 5 Tryz.underlying124 (by kernel_rfl) _ rfl X (ho.out.alloc _) _ _ _ rfl [s[k]] (Sl8.one _ _ _ rfl) Z HXZ (by simp; omega) (by simp; omega) w (hbel.alloc hzr _) ?_; intro v1 w1 ho1 hb1 hz1)
        go_roundw
        case rel => exact ⟨k + 1, Z, by omega, hZk, by go_num, ho1, HIN, HUN, hb1⟩
        case measure => simp [intOf]; omega
    · have HX : Hid (R = X) := by
        have := hun.out
        rw [List.drop_eq_nil_of_le (by rw [← Lib.size_eq]; omega)] at this
        rw [this]; simp [unesc, Hid]
      obtain ⟨A1, c1, rfl, hs1⟩ := ho.out.sl8
      have kc := run_str Tryz.prog wr 124 5 Tryz.underlying124 Tryz.underlying5 hs1 9 Tryz.underlying9
      clear hun hin
      go_wp2
      go_ret
      exact ⟨by rw [HX.out]; rfl, hbel⟩

theorem unq_empty (l : List UInt8) (h : l = []) : unqO l = [] ∧ unqE l = 5 := by subst h; exact ⟨rfl, rfl⟩
theorem unq_head (s : ByteArray) (h : 0 < s.size) (hc : s[0] ≠ 34) : unqO s.data.toList = [] ∧ unqE s.data.toList = 5 := by
  have e := drop_at s 0 h
  rw [List.drop_zero] at e
  have : unqL s.data.toList = none := by rw [e]; simp [unqL, hc]
  simp [unqO, unqE, this]
theorem unq_at (s : ByteArray) (h : 0 < s.size) (hc : s[0] = 34) : unqL s.data.toList = if qPos s 1 = some s.size then some (unesc 1 (s.data.toList.drop 1).dropLast) else none := by
  have e := drop_at s 0 h
  rw [List.drop_zero, hc] at e
  have hl : (s.data.toList.drop 1).length + 1 = s.size := by rw [List.length_drop, ← Lib.size_eq]; omega
  have e2 : unqL s.data.toList = unqR 1 [] (s.data.toList.drop 1) := by
    rw [e]; simp [unqL]
  rw [e2, unq_qEnd _ 1 _ (.inl rfl), List.nil_append]
  have hi : qPos s 1 = some s.size ↔ qEnd 1 (s.data.toList.drop 1) = some (s.data.toList.drop 1).length := by
    unfold qPos
    rw [Option.map_eq_some_iff]
    constructor
    · rintro ⟨a, ha, hb⟩
      rw [ha]; congr 1; omega
    · intro h
      exact ⟨_, h, by omega⟩
  by_cases hx : qPos s 1 = some s.size
  · rw [if_pos hx, if_pos (hi.1 hx)]
  · rw [if_neg hx, if_neg (fun h => hx (hi.2 h))]
theorem unq_good (s : ByteArray) (h : 0 < s.size) (hc : s[0] = 34) (hq : qPos s 1 = some s.size) :
    2 ≤ s.size ∧ inn 1 (s.extract 1 (s.size - 1)).data.toList = true ∧ unqO s.data.toList = unesc 1 (s.extract 1 (s.size - 1)).data.toList ∧ unqE s.data.toList = 0 := by
  have e := unq_at s h hc
  rw [if_pos hq] at e
  have h2 := qPos_le s 1 _ hq
  have hp : (s.extract 1 (s.size - 1)).data.toList = (s.data.toList.drop 1).dropLast := by
    rw [piece_ext, mkS_list, List.dropLast_eq_take]
    unfold piece
    congr 1
    rw [List.length_drop, ← Lib.size_eq]
  rw [hp]
  refine ⟨by omega, ?_, by simp [unqO, e], by simp [unqE, e]⟩
  refine inn_qEnd _ 1 (.inl rfl) ?_
  unfold qPos at hq
  rw [Option.map_eq_some_iff] at hq
  obtain ⟨a, ha, hb⟩ := hq
  rw [ha, List.length_drop, ← Lib.size_eq]
  congr 1; omega
theorem unq_miss (s : ByteArray) (h : 0 < s.size) (hc : s[0] = 34) (hq : qPos s 1 ≠ some s.size) : unqO s.data.toList = [] ∧ unqE s.data.toList = 5 := by
  have e := unq_at s h hc
  rw [if_neg hq] at e
  simp [unqO, unqE, e]

theorem not_empty (s : ByteArray) (h : 0 < s.size) : s.toList.isEmpty = false := by
  rw [Lib.toList_data]
  cases hl : s.data.toList with
  | nil =>
    have := Lib.size_eq s
    rw [hl, List.length_nil] at this
    omega
  | cons a r => rfl
theorem empty_list (s : ByteArray) (h : ¬ 0 < s.size) : s.data.toList = [] := List.eq_nil_of_length_eq_zero (by rw [← Lib.size_eq]; omega)

theorem unquote_any (s : ByteArray) (w : World) (hs : s.size ≤ 100000000) :
    Calls Tryz.prog 152 #[.string s] w fun e w' => e = .returned (.tuple #[.string (mkS (unqO s.data.toList)), .int .i64 (unqE s.data.toList)]) ∧ Below w.heap.size w w' := by
  by_cases h0 : 0 < s.size
  · have hne := not_empty s h0
    by_cases e1 : ((s[0].toNat : Int) == 34) = true
    · have hc : s[0] = 34 := byte_eq (n := 34) (by omega) e1
      by_cases hq : qPos s 1 = some s.size
      · obtain ⟨h2, hi, hu, he⟩ := unq_good s h0 hc hq
        have HU := Lib.hid hu
        have HE := Lib.hid he
        have HI := Lib.hid hi
        have HQ := Lib.hid hq
        have hx1 : (1 : Int) ≤ (s.size : Int) - 1 := by omega
        have hx2 : (s.size : Int) - 1 ≤ (s.size : Int) := by omega
        have hx3 : ((s.size : Int) - 1).toNat = s.size - 1 := by omega
        clear hq hu he hi hc
        go_enter Tryz.func152, Tryz.ntmps152
        go_wp2_with fail
        refine (quotedEnd_any s 0 _ (by omega) h0).mono ?_
        rintro e w' ⟨he, rfl⟩
        rw [show (0 : Nat) + 1 = 1 from rfl, HQ.out, pos_some] at he
        subst he
        go_wp2_with fail
        refine (unescape_any (s.extract 1 (s.size - 1)) _ (by simp; omega) HI.out).mono ?_
        rintro e w1 ⟨he, hb1⟩
        rw [← HU.out] at he
        subst he
        go_wp2_with fail
        go_ret2
        exact ⟨by rw [HE.out]; rfl, hb1⟩
      · obtain ⟨hu, he⟩ := unq_miss s h0 hc hq
        have HU := Lib.hid hu
        have HE := Lib.hid he
        cases hp : qPos s 1 with
        | none =>
          have HQ := Lib.hid hp
          clear hq hu he hp hc
          go_enter Tryz.func152, Tryz.ntmps152
          go_wp2_with fail
          refine (quotedEnd_any s 0 _ (by omega) h0).mono ?_
          rintro e w' ⟨he, rfl⟩
          rw [show (0 : Nat) + 1 = 1 from rfl, HQ.out] at he
          subst he
          go_wp2_with fail
          go_ret2
          exact ⟨by rw [HU.out, HE.out]; rfl, Below.refl _ _⟩
        | some m =>
          have hm : m ≠ s.size := fun h => hq (by rw [hp, h])
          have hmb : ((m : Int) == (s.size : Int)) = false := by rw [beq_eq_false_iff_ne]; omega
          have HQ := Lib.hid hp
          clear hq hu he hp hc hm
          go_enter Tryz.func152, Tryz.ntmps152
          go_wp2_with fail
          refine (quotedEnd_any s 0 _ (by omega) h0).mono ?_
          rintro e w' ⟨he, rfl⟩
          rw [show (0 : Nat) + 1 = 1 from rfl, HQ.out, pos_some] at he
          subst he
          go_wp2_with fail
          go_ret2
          exact ⟨by rw [HU.out, HE.out]; rfl, Below.refl _ _⟩
    · have e1' : ((s[0].toNat : Int) == 34) = false := by simpa using e1
      obtain ⟨hu, he⟩ := unq_head s h0 (byte_ne (n := 34) (by omega) e1')
      have HU := Lib.hid hu
      have HE := Lib.hid he
      clear hu he e1
      go_enter Tryz.func152, Tryz.ntmps152
      go_wp2_with fail
      go_ret2
      exact ⟨by rw [HU.out, HE.out]; rfl, Below.refl _ _⟩
  · obtain ⟨hu, he⟩ := unq_empty _ (empty_list s h0)
    have hne : s.toList.isEmpty = true := by rw [Lib.toList_data, empty_list s h0]; rfl
    have HU := Lib.hid hu
    have HE := Lib.hid he
    clear hu he
    go_enter Tryz.func152, Tryz.ntmps152
    go_wp2_with fail
    go_ret2
    exact ⟨by rw [HU.out, HE.out]; rfl, Below.refl _ _⟩

end Go.Proofs.YtfmaaghmbnhikaaGreatDoor
end

/-
  Contracts of value and Param of package items.
-/
section
namespace Go.Proofs.YtfmaaghmbnhikaaGreatDoor
open Go.RowKit

def isTok (x : ByteArray) : Bool := !x.toList.isEmpty && allB tokB x.data.toList
theorem isTok_list (x : ByteArray) : isTok x = tokL x.data.toList := by unfold isTok tokL; rw [Lib.toList_data]
def valO (z : ByteArray) : ByteArray := if isTok z then z else mkS (unqO z.data.toList)
def valE (z : ByteArray) : Int := if isTok z then 0 else unqE z.data.toList
def parE (s : ByteArray) : Int := if isTok (cutA s 61) then (if cutOk s 61 then valE (cutZ s 61) else 0) else 5
def parN (s : ByteArray) : ByteArray := if parE s = 0 then mkS (lowL (cutA s 61).data.toList) else ⟨#[]⟩
def parV (s : ByteArray) : ByteArray := if parE s = 0 ∧ cutOk s 61 = true then valO (cutZ s 61) else ⟨#[]⟩
def parH (s : ByteArray) : Bool := if parE s = 0 then cutOk s 61 else false
theorem unqE_two (l : List UInt8) : unqE l = 0 ∨ unqE l = 5 := by unfold unqE; split <;> simp
theorem valE_two (z : ByteArray) : valE z = 0 ∨ valE z = 5 := by unfold valE; split <;> simp [unqE_two]

theorem tok_any (s : ByteArray) (w : World) (hs : s.size ≤ maxLen) :
    Calls Tryz.prog 119 #[.string s] w fun e w' => e = .returned (.bool (isTok s)) ∧ Below w.heap.size w w' := isToken_any s w hs

theorem value_any (s : ByteArray) (w : World) (hs : s.size ≤ 100000000) :
    Calls Tryz.prog 121 #[.string s] w fun e w' => e = .returned (.tuple #[.string (valO s), .int .i64 (valE s)]) ∧ Below w.heap.size w w' := by
  rcases Bool.eq_false_or_eq_true (isTok s) with h | h
  · have HT := Lib.hid h
    have HO : Hid (valO s = s) := by show _ = _; simp [valO, h]
    have HE : Hid (valE s = 0) := by show _ = _; simp [valE, h]
    clear h
    go_enter Tryz.func121, Tryz.ntmps121
    go_wp2_with fail
    refine (tok_any s _ (by unfold maxLen; omega)).mono ?_
    rintro e w1 ⟨he, hb1⟩
    rw [HT.out] at he
    subst he
    go_wp2_with fail
    go_ret2
    exact ⟨by rw [HO.out, HE.out]; rfl, hb1⟩
  · have HT := Lib.hid h
    have HO : Hid (valO s = mkS (unqO s.data.toList)) := by show _ = _; simp [valO, h]
    have HE : Hid (valE s = unqE s.data.toList) := by show _ = _; simp [valE, h]
    clear h
    go_enter Tryz.func121, Tryz.ntmps121
    go_wp2_with fail
    refine (tok_any s _ (by unfold maxLen; omega)).mono ?_
    rintro e w1 ⟨he, hb1⟩
    rw [HT.out] at he
    subst he
    go_wp2_with fail
    refine (unquote_any s _ hs).mono ?_
    rintro e w2 ⟨he, hb2⟩
    rw [← HO.out, ← HE.out] at he
    obtain ⟨a, ha⟩ : ∃ a, a = valO s := ⟨_, rfl⟩
    obtain ⟨b, hb⟩ : ∃ b, b = valE s := ⟨_, rfl⟩
    rw [← ha, ← hb] at he
    have HA := Lib.hid ha
    have HB := Lib.hid hb
    clear ha hb
    subst he
    go_wp2_with fail
    go_ret2
    exact ⟨by rw [← HA.out, ← HB.out]; rfl, below_then hb1 hb2⟩

theorem cutA_le (s : ByteArray) (c : Int) : (cutA s c).size ≤ s.size := by
  unfold cutA
  split
  · exact Nat.le_refl _
  · rw [ByteArray.size_extract]; omega
theorem cutZ_le (s : ByteArray) (c : Int) : (cutZ s c).size ≤ s.size := by
  unfold cutZ
  split
  · exact Nat.zero_le _
  · rw [ByteArray.size_extract]; omega
theorem par_tok {s : ByteArray} (h : isTok (cutA s 61) = false) : parN s = ⟨#[]⟩ ∧ parV s = ⟨#[]⟩ ∧ parH s = false ∧ parE s = 5 := by
  have e : parE s = 5 := by simp [parE, h]
  simp [parN, parV, parH, e]
theorem par_bare {s : ByteArray} (h : isTok (cutA s 61) = true) (k : cutOk s 61 = false) : parN s = mkS (lowL (cutA s 61).data.toList) ∧ parV s = ⟨#[]⟩ ∧ parH s = false ∧ parE s = 0 := by
  have e : parE s = 0 := by simp [parE, h, k]
  simp [parN, parV, parH, e, k]
theorem par_bad {s : ByteArray} (h : isTok (cutA s 61) = true) (k : cutOk s 61 = true) (v : valE (cutZ s 61) = 5) : parN s = ⟨#[]⟩ ∧ parV s = ⟨#[]⟩ ∧ parH s = false ∧ parE s = 5 := by
  have e : parE s = 5 := by simp [parE, h, k, v]
  simp [parN, parV, parH, e]
theorem par_good {s : ByteArray} (h : isTok (cutA s 61) = true) (k : cutOk s 61 = true) (v : valE (cutZ s 61) = 0) : parN s = mkS (lowL (cutA s 61).data.toList) ∧ parV s = valO (cutZ s 61) ∧ parH s = true ∧ parE s = 0 := by
  have e : parE s = 0 := by simp [parE, h, k, v]
  simp [parN, parV, parH, e, k]

theorem param_any (s : ByteArray) (w : World) (hs : s.size ≤ 100000000) :
    Calls Tryz.prog 89 #[.string s] w fun e w' => e = .returned (.tuple #[.string (parN s), .string (parV s), .bool (parH s), .int .i64 (parE s)]) ∧ Below w.heap.size w w' := by
  have H1 := @par_tok s
  have H2 := @par_bare s
  have H3 := @par_bad s
  have H4 := @par_good s
  have ha := cutA_le s 61
  have hz := cutZ_le s 61
  have hcut := cut_any s 61 w (by unfold maxLen; omega) (by omega) (by omega)
  generalize parN s = N at *
  generalize parV s = V at *
  generalize parH s = H at *
  generalize parE s = E at *
  generalize cutA s 61 = a at *
  generalize cutZ s 61 = z at *
  generalize cutOk s 61 = b at *
  have HC := Lib.hid hcut
  clear hcut
  rcases Bool.eq_false_or_eq_true (isTok a) with h | h
  · have HT := Lib.hid h
    cases b with
    | false =>
      have HR := Lib.hid (H2 h rfl)
      clear H1 H2 H3 H4 h
      go_enter Tryz.func89, Tryz.ntmps89
      go_wp2_with fail
      refine HC.out.mono ?_
      rintro e w1 ⟨rfl, hb1⟩
      go_wp2_with fail
      refine (tok_any a _ (by unfold maxLen; omega)).mono ?_
      rintro e w2 ⟨he, hb2⟩
      rw [HT.out] at he
      subst he
      go_wp2_with fail
      refine (lower_any a _ (by unfold maxLen; omega)).mono ?_
      rintro e w3 ⟨rfl, hb3⟩
      go_wp2_with fail
      (try simp only [Exit.inBlock, Exit.then]); refine bodyPost_ret (results_tmp4 rfl _ _ _) rfl ?_
      exact ⟨by rw [HR.out.1, HR.out.2.1, HR.out.2.2.1, HR.out.2.2.2]; rfl, below_then (below_then hb1 hb2) hb3⟩
    | true =>
      rcases valE_two z with hv | hv
      · have HR := Lib.hid (H4 h rfl hv)
        have HV := Lib.hid hv
        clear H1 H2 H3 H4 h hv
        go_enter Tryz.func89, Tryz.ntmps89
        go_wp2_with fail
        refine HC.out.mono ?_
        rintro e w1 ⟨rfl, hb1⟩
        go_wp2_with fail
        refine (tok_any a _ (by unfold maxLen; omega)).mono ?_
        rintro e w2 ⟨he, hb2⟩
        rw [HT.out] at he
        subst he
        go_wp2_with fail
        refine (value_any z _ (by omega)).mono ?_
        rintro e w3 ⟨he, hb3⟩
        rw [HV.out, ← HR.out.2.1] at he
        subst he
        go_wp2_with fail
        refine (lower_any a _ (by unfold maxLen; omega)).mono ?_
        rintro e w4 ⟨rfl, hb4⟩
        go_wp2_with fail
        (try simp only [Exit.inBlock, Exit.then]); refine bodyPost_ret (results_tmp4 rfl _ _ _) rfl ?_
        exact ⟨by rw [HR.out.1, HR.out.2.2.1, HR.out.2.2.2]; rfl, below_then (below_then (below_then hb1 hb2) hb3) hb4⟩
      · have HR := Lib.hid (H3 h rfl hv)
        have HV := Lib.hid hv
        clear H1 H2 H3 H4 h hv
        go_enter Tryz.func89, Tryz.ntmps89
        go_wp2_with fail
        refine HC.out.mono ?_
        rintro e w1 ⟨rfl, hb1⟩
        go_wp2_with fail
        refine (tok_any a _ (by unfold maxLen; omega)).mono ?_
        rintro e w2 ⟨he, hb2⟩
        rw [HT.out] at he
        subst he
        go_wp2_with fail
        refine (value_any z _ (by omega)).mono ?_
        rintro e w3 ⟨he, hb3⟩
        rw [HV.out] at he
        subst he
        go_wp2_with fail
        (try simp only [Exit.inBlock, Exit.then]); refine bodyPost_ret (results_tmp4 rfl _ _ _) rfl ?_
        exact ⟨by rw [HR.out.1, HR.out.2.1, HR.out.2.2.1, HR.out.2.2.2]; rfl, below_then (below_then hb1 hb2) hb3⟩
  · have HT := Lib.hid h
    have HR := Lib.hid (H1 h)
    clear H1 H2 H3 H4 h
    go_enter Tryz.func89, Tryz.ntmps89
    go_wp2_with fail
    refine HC.out.mono ?_
    rintro e w1 ⟨rfl, hb1⟩
    go_wp2_with fail
    refine (tok_any a _ (by unfold maxLen; omega)).mono ?_
    rintro e w2 ⟨he, hb2⟩
    rw [HT.out] at he
    subst he
    go_wp2_with fail
    (try simp only [Exit.inBlock, Exit.then]); refine bodyPost_ret (results_tmp4 rfl _ _ _) rfl ?_
    exact ⟨by rw [HR.out.1, HR.out.2.1, HR.out.2.2.1, HR.out.2.2.2]; rfl, below_then hb1 hb2⟩

end Go.Proofs.YtfmaaghmbnhikaaGreatDoor
end
