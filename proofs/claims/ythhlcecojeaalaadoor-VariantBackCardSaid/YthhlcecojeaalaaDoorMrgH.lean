/-
  Texts that the laws of this seat lean on, one behind the other.
-/
import Derived.Test.YthhlcecojeaalaaDoorMrgG
import Derived.Test.YthhlcecojeaalaaDoorMrgF
set_option linter.unusedSimpArgs false
set_option linter.unusedVariables false
/-
  Contracts of Num, Flag and Text of package wire.
-/
section
namespace Go.Proofs.YthhlcecojeaalaaDoor
open Go.RowKit

/-! ### What a Reader tells of the bytes that are left -/
/-- How many bytes Num takes. -/
def numK (m : List UInt8) (k : Int) : Nat := if getE m 0 k = 0 then k.toNat else 0
def flagE (m : List UInt8) : Int := if getE m 0 1 = 0 then (if 1 < getV m 0 1 then 5 else 0) else getE m 0 1
def flagV (m : List UInt8) : Bool := if flagE m = 0 then getV m 0 1 == 1 else false
def flagK (m : List UInt8) : Nat := if flagE m = 0 then 1 else 0
def textE (m : List UInt8) : Int := if getE m 0 4 = 0 then (if 65536 < getV m 0 4 then 4 else if (m.length : Int) - 4 < getV m 0 4 then 6 else 0) else getE m 0 4
def textV (m : List UInt8) : List UInt8 := if textE m = 0 then (m.drop 4).take (getV m 0 4).toNat else []
def textK (m : List UInt8) : Nat := if textE m = 0 then 4 + (getV m 0 4).toNat else 0

/-- What a call of a Reader's method answers, and what is left. -/
def Reads1 (R t : Nat) (v : Value) (rest : List UInt8) (w : World) (e : Ending) (w' : World) : Prop := e = .returned v ∧ Hold1 w' R t rest ∧ ButB R w w'

theorem get_len {m : List UInt8} {k : Int} (h : getE m 0 k = 0) : 1 ≤ k ∧ k ≤ 7 ∧ k ≤ m.length := by
  unfold getE at h
  split at h
  · cases h
  · rename_i hw
    have := wideB_yes.1 (by simpa using hw)
    split at h
    · cases h
    · omega
theorem get_err {m : List UInt8} {i k : Int} (h : getE m i k ≠ 0) : getV m i k = 0 := by unfold getV; rw [if_neg h]

set_option maxHeartbeats 1000000 in
set_option maxRecDepth 100000 in
theorem num_any (R : Nat) (m : List UInt8) (k : Int) (w : World) (h : Hold1 w R 100 m) (hk0 : -9223372036854775808 ≤ k) (hk1 : k ≤ 9223372036854775807) :
    Calls Tryd.prog 77 #[.pointer (some ⟨R, 0, none⟩), .int .i64 k] w (Reads1 R 100 (.tuple #[.int .i64 (getV m 0 k), .int .i64 (getE m 0 k)]) (m.drop (numK m k)) w) := by
  obtain ⟨E, hE⟩ : ∃ E, E = getE m 0 k := ⟨_, rfl⟩
  obtain ⟨V, hV⟩ : ∃ V, V = getV m 0 k := ⟨_, rfl⟩
  by_cases h0 : E = 0
  · have hl := get_len (m := m) (k := k) (by rw [← hE]; exact h0)
    obtain ⟨K, rfl⟩ := Int.eq_ofNat_of_zero_le (show 0 ≤ k by omega)
    have HN := Lib.hid (show numK m K = K by unfold numK; rw [if_pos (by rw [← hE]; exact h0)]; rfl)
    have HE := Lib.hid (And.intro hE (And.intro hV h0))
    clear hE hV h0
    go_enter Tryd.func77, Tryd.ntmps77
    go_wp2_with fail
    refine (peek_any R m K _ h hk0 hk1).mono ?_
    rintro e w1 ⟨he, hb⟩
    rw [← HE.out.1, ← HE.out.2.1, HE.out.2.2] at he
    subst he
    go_wp2_with fail
    refine (take_any R m K _ (h.below hb) (by omega)).mono ?_
    rintro e w2 ⟨A, c, rfl, hs, hh, hb2⟩
    have HR := Lib.hid (And.intro hh ((ButB.of_below hb).trans hb2))
    clear hs hh hb2
    go_wp2_with fail
    go_ret2
    rw [HN.out, ← HE.out.1, ← HE.out.2.1, HE.out.2.2]
    exact ⟨rfl, HR.out.1, HR.out.2⟩
  · have HN := Lib.hid (show numK m k = 0 by unfold numK; rw [if_neg (by rw [← hE]; exact h0)])
    have h0' : (E == 0) = false := by simpa using h0
    have h0'' : (E != 0) = true := by simpa using h0
    have HE := Lib.hid (And.intro hE (And.intro hV (get_err (m := m) (i := 0) (k := k) (by rw [← hE]; exact h0))))
    clear hE hV
    go_enter Tryd.func77, Tryd.ntmps77
    go_wp2_with fail
    refine (peek_any R m k _ h hk0 hk1).mono ?_
    rintro e w1 ⟨he, hb⟩
    rw [← HE.out.1, ← HE.out.2.1] at he
    subst he
    go_wp2_with fail
    go_ret2
    rw [HN.out, ← HE.out.1, HE.out.2.2]
    exact ⟨rfl, h.below hb, ButB.of_below hb⟩

theorem flag_cs (m : List UInt8) : (getE m 0 1 ≠ 0 ∧ flagE m = getE m 0 1 ∧ flagV m = false ∧ flagK m = 0) ∨ (getE m 0 1 = 0 ∧ 1 < getV m 0 1 ∧ flagE m = 5 ∧ flagV m = false ∧ flagK m = 0) ∨
    (getE m 0 1 = 0 ∧ ¬ 1 < getV m 0 1 ∧ flagE m = 0 ∧ flagV m = (getV m 0 1 == 1) ∧ flagK m = 1) := by
  by_cases h : getE m 0 1 = 0
  · by_cases h1 : 1 < getV m 0 1
    · have e : flagE m = 5 := by unfold flagE; rw [if_pos h, if_pos h1]
      exact .inr (.inl ⟨h, h1, e, by unfold flagV; rw [e]; rfl, by unfold flagK; rw [e]; rfl⟩)
    · have e : flagE m = 0 := by unfold flagE; rw [if_pos h, if_neg h1]
      exact .inr (.inr ⟨h, h1, e, by unfold flagV; rw [if_pos e], by unfold flagK; rw [if_pos e]⟩)
  · have e : flagE m = getE m 0 1 := by unfold flagE; rw [if_neg h]
    exact .inl ⟨h, e, by unfold flagV; rw [if_neg (by rw [e]; exact h)], by unfold flagK; rw [if_neg (by rw [e]; exact h)]⟩

set_option maxHeartbeats 1000000 in
set_option maxRecDepth 100000 in
theorem flag_any (R : Nat) (m : List UInt8) (w : World) (h : Hold1 w R 100 m) :
    Calls Tryd.prog 90 #[.pointer (some ⟨R, 0, none⟩)] w (Reads1 R 100 (.tuple #[.bool (flagV m), .int .i64 (flagE m)]) (m.drop (flagK m)) w) := by
  obtain ⟨E, hE⟩ : ∃ E, E = getE m 0 1 := ⟨_, rfl⟩
  obtain ⟨V, hV⟩ : ∃ V, V = getV m 0 1 := ⟨_, rfl⟩
  have hcs := flag_cs m
  rw [← hE, ← hV] at hcs
  have HE := Lib.hid hE
  have HV := Lib.hid hV
  clear hE hV
  rcases hcs with ⟨h0, h1, h2, h3⟩ | ⟨h0, h1, h2⟩ | ⟨h0, h1, h2⟩
  · have h0' : (E == 0) = false := by simpa using h0
    have h0'' : (E != 0) = true := by simpa using h0
    have HC := Lib.hid (And.intro h1 (And.intro h2 h3))
    clear h1 h2 h3
    go_enter Tryd.func90, Tryd.ntmps90
    go_wp2_with fail
    refine (peek_any R m 1 _ h (by omega) (by omega)).mono ?_
    rintro e w1 ⟨he, hb⟩
    rw [← HE.out, ← HV.out] at he
    subst he
    go_wp2_with fail
    go_ret2
    rw [HC.out.1, HC.out.2.1, HC.out.2.2]
    exact ⟨rfl, h.below hb, ButB.of_below hb⟩
  · have HC := Lib.hid h2
    have HZ := Lib.hid h0
    clear h2 h0
    go_enter Tryd.func90, Tryd.ntmps90
    go_wp2_with fail
    refine (peek_any R m 1 _ h (by omega) (by omega)).mono ?_
    rintro e w1 ⟨he, hb⟩
    rw [← HE.out, ← HV.out, HZ.out] at he
    subst he
    go_wp2_with fail
    go_ret2
    rw [HC.out.1, HC.out.2.1, HC.out.2.2]
    exact ⟨rfl, h.below hb, ButB.of_below hb⟩
  · have hl := get_len (m := m) (k := 1) (by rw [← HE.out]; exact h0)
    have HC := Lib.hid h2
    have HZ := Lib.hid h0
    clear h2 h0
    go_enter Tryd.func90, Tryd.ntmps90
    go_wp2_with fail
    refine (peek_any R m 1 _ h (by omega) (by omega)).mono ?_
    rintro e w1 ⟨he, hb⟩
    rw [← HE.out, ← HV.out, HZ.out] at he
    subst he
    go_wp2_with fail
    refine (take_any R m 1 _ (h.below hb) (by omega)).mono ?_
    rintro e w2 ⟨A, c, rfl, hs, hh, hb2⟩
    have HR := Lib.hid (And.intro hh ((ButB.of_below hb).trans hb2))
    clear hs hh hb2
    go_wp2_with fail
    go_ret2
    rw [HC.out.1, HC.out.2.1, HC.out.2.2]
    exact ⟨rfl, HR.out.1, HR.out.2⟩

theorem text_cs (m : List UInt8) : (getE m 0 4 ≠ 0 ∧ textE m = getE m 0 4 ∧ textV m = [] ∧ textK m = 0) ∨ (getE m 0 4 = 0 ∧ 65536 < getV m 0 4 ∧ textE m = 4 ∧ textV m = [] ∧ textK m = 0) ∨
    (getE m 0 4 = 0 ∧ ¬ 65536 < getV m 0 4 ∧ (m.length : Int) - 4 < getV m 0 4 ∧ textE m = 6 ∧ textV m = [] ∧ textK m = 0) ∨
    (getE m 0 4 = 0 ∧ ¬ 65536 < getV m 0 4 ∧ ¬ (m.length : Int) - 4 < getV m 0 4 ∧ textE m = 0 ∧ textV m = (m.drop 4).take (getV m 0 4).toNat ∧ textK m = 4 + (getV m 0 4).toNat) := by
  by_cases h : getE m 0 4 = 0
  · by_cases h1 : 65536 < getV m 0 4
    · have e : textE m = 4 := by unfold textE; rw [if_pos h, if_pos h1]
      exact .inr (.inl ⟨h, h1, e, by unfold textV; rw [e]; rfl, by unfold textK; rw [e]; rfl⟩)
    · by_cases h2 : (m.length : Int) - 4 < getV m 0 4
      · have e : textE m = 6 := by unfold textE; rw [if_pos h, if_neg h1, if_pos h2]
        exact .inr (.inr (.inl ⟨h, h1, h2, e, by unfold textV; rw [e]; rfl, by unfold textK; rw [e]; rfl⟩))
      · have e : textE m = 0 := by unfold textE; rw [if_pos h, if_neg h1, if_neg h2]
        exact .inr (.inr (.inr ⟨h, h1, h2, e, by unfold textV; rw [if_pos e], by unfold textK; rw [if_pos e]⟩))
  · have e : textE m = getE m 0 4 := by unfold textE; rw [if_neg h]
    exact .inl ⟨h, e, by unfold textV; rw [if_neg (by rw [e]; exact h)], by unfold textK; rw [if_neg (by rw [e]; exact h)]⟩

set_option maxHeartbeats 1000000 in
set_option maxRecDepth 100000 in
theorem wText_any (R : Nat) (m : List UInt8) (w : World) (h : Hold1 w R 100 m) (hm : m.length ≤ 1000000) :
    Calls Tryd.prog 78 #[.pointer (some ⟨R, 0, none⟩)] w (Reads1 R 100 (.tuple #[.string (mkS (textV m)), .int .i64 (textE m)]) (m.drop (textK m)) w) := by
  obtain ⟨E, hE⟩ : ∃ E, E = getE m 0 4 := ⟨_, rfl⟩
  obtain ⟨V, hV⟩ : ∃ V, V = getV m 0 4 := ⟨_, rfl⟩
  have hV0 := get_bd m 0 4
  have hcs := text_cs m
  rw [← hE, ← hV] at hcs
  rw [← hV] at hV0
  have HE := Lib.hid hE
  have HV := Lib.hid hV
  clear hE hV
  rcases hcs with ⟨h0, h1, h2, h3⟩ | ⟨h0, h1, h2⟩ | ⟨h0, h1, h2, h3⟩ | ⟨h0, h1, h2, h3⟩
  · have h0' : (E == 0) = false := by simpa using h0
    have h0'' : (E != 0) = true := by simpa using h0
    have HC := Lib.hid (And.intro h1 (And.intro h2 h3))
    clear h1 h2 h3
    go_enter Tryd.func78, Tryd.ntmps78
    go_wp2_with fail
    refine (peek_any R m 4 _ h (by omega) (by omega)).mono ?_
    rintro e w1 ⟨he, hb⟩
    rw [← HE.out, ← HV.out] at he
    subst he
    go_wp2_with fail
    go_ret2
    rw [HC.out.1, HC.out.2.1, HC.out.2.2]
    exact ⟨rfl, h.below hb, ButB.of_below hb⟩
  · have HC := Lib.hid h2
    have HZ := Lib.hid h0
    clear h2 h0
    go_enter Tryd.func78, Tryd.ntmps78
    go_wp2_with fail
    refine (peek_any R m 4 _ h (by omega) (by omega)).mono ?_
    rintro e w1 ⟨he, hb⟩
    rw [← HE.out, ← HV.out, HZ.out] at he
    subst he
    go_wp2_with fail
    go_ret2
    rw [HC.out.1, HC.out.2.1, HC.out.2.2]
    exact ⟨rfl, h.below hb, ButB.of_below hb⟩
  · have HC := Lib.hid h3
    have HZ := Lib.hid h0
    clear h3 h0
    go_enter Tryd.func78, Tryd.ntmps78
    go_wp2_with fail
    refine (peek_any R m 4 _ h (by omega) (by omega)).mono ?_
    rintro e w1 ⟨he, hb⟩
    rw [← HE.out, ← HV.out, HZ.out] at he
    subst he
    go_wp2_with fail
    refine (left_any R m _ (h.below hb)).mono ?_
    rintro e w2 ⟨rfl, rfl⟩
    go_wp2_with fail
    go_ret2
    rw [HC.out.1, HC.out.2.1, HC.out.2.2]
    exact ⟨rfl, h.below hb, ButB.of_below hb⟩
  · have hl := get_len (m := m) (k := 4) (by rw [← HE.out]; exact h0)
    obtain ⟨N, rfl⟩ := Int.eq_ofNat_of_zero_le hV0.1
    have HC := Lib.hid h3
    have HZ := Lib.hid h0
    clear h3 h0 hV0
    go_enter Tryd.func78, Tryd.ntmps78
    go_wp2_with fail
    refine (peek_any R m 4 _ h (by omega) (by omega)).mono ?_
    rintro e w1 ⟨he, hb⟩
    rw [← HE.out, ← HV.out, HZ.out] at he
    subst he
    go_wp2_with fail
    refine (left_any R m _ (h.below hb)).mono ?_
    rintro e w2 ⟨rfl, rfl⟩
    go_wp2_with fail
    refine (take_any R m 4 _ (h.below hb) (by omega)).mono ?_
    rintro e w2 ⟨A, c, rfl, _, hh, hb2⟩
    have HB := Lib.hid ((ButB.of_below hb).trans hb2)
    clear hb2
    go_wp2_with fail
    refine (take_any R (m.drop 4) N _ hh (by rw [List.length_drop]; omega)).mono ?_
    rintro e w3 ⟨A', c', rfl, hs, hh3, hb3⟩
    have k1 := run_str Tryd.prog w3 37 5 Tryd.underlying37 Tryd.underlying5 hs 9 Tryd.underlying9
    obtain ⟨T, hT⟩ : ∃ T, T = (m.drop 4).take N := ⟨_, rfl⟩
    rw [← hT] at k1
    have HT := Lib.hid hT
    have HR := Lib.hid (And.intro hh3 (HB.out.trans hb3))
    clear hs hh3 hb3 hT hh
    go_wp2_with fail
    go_ret2
    rw [HC.out.1, HC.out.2.1, HC.out.2.2]
    refine ⟨by rw [HT.out]; rfl, ?_, HR.out.2⟩
    have := HR.out.1
    rw [List.drop_drop] at this
    exact this

end Go.Proofs.YthhlcecojeaalaaDoor
end

/-
  Plain facts: what was put one behind the other is read one behind the other (P3.3).
-/
section
namespace Go.Proofs.YthhlcecojeaalaaDoor

/-- Integers of five bytes, each followed by a text. -/
def encL (z : List Int) (s : List UInt8) : List UInt8 := z.flatMap fun n => leL n.toNat 5 ++ (leL s.length 4 ++ s)
theorem get_front (n k : Nat) (t : List UInt8) (hk : 1 ≤ k) (hk7 : k ≤ 7) (hn : n < 256 ^ k) : getE (leL n k ++ t) 0 k = 0 ∧ getV (leL n k ++ t) 0 k = n := by
  have h := get_ok (l := leL n k ++ t) (i := 0) (k := k) (wideB_yes.2 ⟨by omega, by omega⟩) (by rw [List.length_append, leL_len]; omega)
  refine ⟨h.1, ?_⟩
  rw [h.2]
  simp only [Int.toNat_zero, List.drop_zero, Int.toNat_natCast]
  rw [List.take_left' (leL_len n k), deL_leL_of_lt hn]

theorem text_front (s t : List UInt8) (h : s.length ≤ 65536) : textE (leL s.length 4 ++ (s ++ t)) = 0 ∧ textV (leL s.length 4 ++ (s ++ t)) = s ∧ (leL s.length 4 ++ (s ++ t)).drop (textK (leL s.length 4 ++ (s ++ t))) = t := by
  have hg := get_front s.length 4 (s ++ t) (by omega) (by omega) (by omega)
  obtain ⟨m, hm⟩ : ∃ m, m = leL s.length 4 ++ (s ++ t) := ⟨_, rfl⟩
  have hml : m.length = 4 + (s.length + t.length) := by rw [hm, List.length_append, leL_len, List.length_append]
  have hd : m.drop 4 = s ++ t := by rw [hm]; exact List.drop_left' (leL_len _ _)
  rw [← hm] at hg ⊢
  obtain ⟨g0, g1⟩ := hg
  rcases text_cs m with ⟨h0, _⟩ | ⟨_, h0, _⟩ | ⟨_, _, h0, _⟩ | ⟨_, _, _, e0, e1, e2⟩
  · exact absurd g0 h0
  · rw [show (4 : Int) = ((4 : Nat) : Int) from rfl, g1] at h0
    omega
  · rw [show getV m 0 4 = (s.length : Int) from g1] at h0
    omega
  · rw [show getV m 0 4 = (s.length : Int) from g1] at e1 e2
    refine ⟨e0, ?_, ?_⟩
    · rw [e1, hd]
      exact List.take_left' (by simp)
    · rw [e2, ← List.drop_drop, hd]
      exact List.drop_left' (by simp)

end Go.Proofs.YthhlcecojeaalaaDoor
end

/-
  Contracts of Put and PutText of package wire.
-/
section
namespace Go.Proofs.YthhlcecojeaalaaDoor
open Go.RowKit

/-- What Put and PutText answer: bytes in memory of their own, and a code. -/
def Bytes2 (w : World) (l : List UInt8) (code : Int) (e : Ending) (w' : World) : Prop :=
  ∃ A n c, e = .returned (.tuple #[.slice A n c, .int .i64 code]) ∧ Sl8 w' A n c l ∧ Below w.heap.size w w'

theorem shl_wide {K : Nat} (h : K ≤ 7) : wrap64 (2 ^ (8 * K)) = (256 : Int) ^ ((K : Int)).toNat := by
  have h1 := pow_seven h
  have e : (2 : Int) ^ (8 * K) = ((256 ^ K : Nat) : Int) := by rw [pow_256]; simp
  rw [Int.toNat_natCast, e, pow_int]
  generalize 256 ^ K = p at *
  exact IntWalk.wrap64_in _ (by omega)

theorem sevL_take (n k : Nat) : (sevL n k).take k = leL n k := by
  unfold sevL
  rw [List.take_append_of_le_length (by rw [leL_len]; exact Nat.le_refl _), List.take_of_length_le (by rw [leL_len]; exact Nat.le_refl _)]

/-- The front of an array of bytes as a slice. -/
theorem Blk8.front {w : World} {B t : Nat} {l : List UInt8} (h : Blk8 w B t l) {k : Nat} (hk : k ≤ l.length) (hl : l.length ≤ maxLen) : Sl8 w (some ⟨B, 0, none⟩) k l.length (l.take k) :=
  ⟨by rw [List.length_take]; omega, hk, hl, (fun e => by cases e), fun _ => ⟨_, rfl, fun j x hx => by
    rw [addr_add]
    rw [List.getElem?_take] at hx
    split at hx
    · exact h.at hx
    · cases hx⟩⟩

set_option maxHeartbeats 1000000 in
set_option maxRecDepth 100000 in
theorem put_any (A : Option Addr) (n c : Nat) (l : List UInt8) (N k : Int) (w : World) (h : Sl8 w A n c l) (hl : l.length ≤ 100000) (hN0 : -9223372036854775808 ≤ N) (hN1 : N ≤ 9223372036854775807) (hk0 : -9223372036854775808 ≤ k) (hk1 : k ≤ 9223372036854775807) :
    Calls Tryd.prog 74 #[.slice A n c, .int .i64 N, .int .i64 k] w (Bytes2 w (wPutL l N k) (putE N k)) := by
  rcases Bool.eq_false_or_eq_true (wideB k) with hw | hw
  · have hwk := wideB_yes.1 hw
    obtain ⟨K, rfl⟩ := Int.eq_ofNat_of_zero_le (show 0 ≤ k by omega)
    have HW := Lib.hid hw
    by_cases hN : N < 0
    · have HG := Lib.hid (put_range hw (.inl hN) l)
      clear hw
      go_enter Tryd.func74, Tryd.ntmps74
      go_wp2_with fail
      refine (wide_any K _).mono ?_
      rintro e w' ⟨he, rfl⟩
      rw [HW.out] at he
      subst he
      go_wp2_with fail
      go_ret2
      rw [HG.out.1, HG.out.2]
      exact ⟨none, 0, 0, rfl, Sl8.none_ _, Below.refl _ _⟩
    · have HP := Lib.hid (shl_wide (K := K) (by omega))
      clear hw
      go_enter Tryd.func74, Tryd.ntmps74
      go_wp2_with fail
      refine (wide_any K _).mono ?_
      rintro e w' ⟨he, rfl⟩
      rw [HW.out] at he
      subst he
      go_wp2_with fail
      · have hr : N < 0 ∨ wrap64 (2 ^ (8 * K)) ≤ N := by assumption
        rw [HP.out] at hr
        have HG := put_range HW.out hr l
        go_ret2
        rw [HG.1, HG.2]
        exact ⟨none, 0, 0, rfl, Sl8.none_ _, Below.refl _ _⟩
      · have hr : 0 ≤ N ∧ N < wrap64 (2 ^ (8 * K)) := by assumption
        have hr' := hr
        rw [HP.out] at hr'
        have HG := Lib.hid (put_ok (n := N) HW.out (by omega) l)
        have HR := Lib.hid hr
        clear hr hr'
        refine (wSplit_any N K _ (by omega) hwk.1 hwk.2).mono ?_
        rintro e w1 ⟨he, hb1⟩
        obtain ⟨S, hS⟩ : ∃ S, S = sevL N.toNat (K : Int).toNat := ⟨_, rfl⟩
        rw [← hS] at he
        subst he
        have hs7 : S.length = 7 := by rw [hS]; exact sevL_len (by omega)
        have HST := Lib.hid (show S.take K = leL N.toNat K by rw [hS]; exact sevL_take _ _)
        clear hS
        have HZ : Hid (Blk8 (w1.alloc (Obj.cells #[.int .u8 0, .int .u8 0, .int .u8 0, .int .u8 0, .int .u8 0, .int .u8 0, .int .u8 0] 132)) w1.heap.size 132 (List.replicate 7 0)) := heap_alloc_new w1 _
        have HS := Lib.hid hs7
        have hsz := hb1.size
        have HB := Lib.hid (hb1.alloc hsz (Obj.cells #[.int .u8 0, .int .u8 0, .int .u8 0, .int .u8 0, .int .u8 0, .int .u8 0, .int .u8 0] 132))
        clear hs7
        unfold arrV
        go_wp2_with (refine wpList_store_arr rfl _ _ _ rfl w1.heap.size _ rfl rfl 132 _ HZ.out (by rw [HS.out]; kernel_rfl) (by rw [HS.out]; rfl) w.heap.size w HB.out hsz ?_; intro w2 hs2 hb2 hz2)
        have hf2 : Sl8 w2 (some ⟨w1.heap.size, 0, none⟩) K 7 (leL N.toNat K) := by
          have := hs2.out.front (k := K) (by rw [HS.out]; omega) (by rw [HS.out]; decide)
          rw [HS.out, HST.out] at this
          exact this
        refine (concat_any _ [l, leL N.toNat K] _ (Sls.two (h.below hb2) hf2 37) (by simp) ?_).mono ?_
        · simp [wSumL, leL_len]; omega
        rintro e w4 ⟨v, rfl, hown, hb4⟩
        obtain ⟨A', c', rfl, hA'⟩ := Sl8.of_own hown
        have hb5 : Below w.heap.size w w4 := (hb2.alloc hb2.size _).trans (hb4.mono (by simp; have := hb2.size; omega))
        have H5 := Lib.hid hA'
        clear hown hA' hb4 hf2 hs2
        go_wp2_with fail
        go_ret2
        rw [HG.out.1, HG.out.2]
        exact ⟨A', _, c', rfl, by simpa using H5.out, hb5⟩
  · have HG := Lib.hid (put_wide (n := N) hw l)
    have HW := Lib.hid hw
    clear hw
    go_enter Tryd.func74, Tryd.ntmps74
    go_wp2_with fail
    refine (wide_any k _).mono ?_
    rintro e w' ⟨he, rfl⟩
    rw [HW.out] at he
    subst he
    go_wp2_with fail
    go_ret2
    rw [HG.out.1, HG.out.2]
    exact ⟨none, 0, 0, rfl, Sl8.none_ _, Below.refl _ _⟩

end Go.Proofs.YthhlcecojeaalaaDoor
end

/-
  Contract of PutText of package wire.
-/
section
namespace Go.Proofs.YthhlcecojeaalaaDoor
open Go.RowKit

theorem pt_long {s : List UInt8} (h : 65536 < s.length) (l : List UInt8) : ptE s = 4 ∧ ptL l s = [] := by
  have e : ptE s = 4 := by unfold ptE; rw [if_pos h]
  exact ⟨e, by unfold ptL; rw [e]; rfl⟩
theorem pt_ok {s : List UInt8} (h : ¬ 65536 < s.length) (l : List UInt8) : ptE s = 0 ∧ ptL l s = l ++ (leL s.length 4 ++ s) := by
  have e : ptE s = 0 := by unfold ptE; rw [if_neg h]
  exact ⟨e, by unfold ptL; rw [if_pos e]⟩

set_option maxHeartbeats 1000000 in
set_option maxRecDepth 100000 in
theorem puttext_any (A : Option Addr) (n c : Nat) (l : List UInt8) (s : ByteArray) (w : World) (h : Sl8 w A n c l) (hl : l.length ≤ 100000) (hs : s.size ≤ maxLen) :
    Calls Tryd.prog 75 #[.slice A n c, .string s] w (Bytes2 w (ptL l s.data.toList) (ptE s.data.toList)) := by
  unfold maxLen at hs
  have HSZ := Lib.hid (Lib.size_eq s)
  by_cases hb : 65536 < s.size
  · have HG := Lib.hid (pt_long (s := s.data.toList) (by rw [← HSZ.out]; exact hb) l)
    go_enter Tryd.func75, Tryd.ntmps75
    go_wp2_with fail
    go_ret2
    rw [HG.out.1, HG.out.2]
    exact ⟨none, 0, 0, rfl, Sl8.none_ _, Below.refl _ _⟩
  · have HG := Lib.hid (pt_ok (s := s.data.toList) (by rw [← HSZ.out]; exact hb) l)
    go_enter Tryd.func75, Tryd.ntmps75
    go_wp2_with fail
    refine (wSplit_any s.size 4 _ (by omega) (by omega) (by omega)).mono ?_
    rintro e w1 ⟨he, hb1⟩
    obtain ⟨S, hS⟩ : ∃ S, S = sevL (s.size : Int).toNat (4 : Int).toNat := ⟨_, rfl⟩
    rw [← hS] at he
    subst he
    have hs7 : S.length = 7 := by rw [hS]; exact sevL_len (by decide)
    have HST := Lib.hid (show S.take 4 = leL s.data.toList.length 4 by rw [hS, ← HSZ.out]; exact sevL_take _ _)
    clear hS
    have HZ : Hid (Blk8 (w1.alloc (Obj.cells #[.int .u8 0, .int .u8 0, .int .u8 0, .int .u8 0, .int .u8 0, .int .u8 0, .int .u8 0] 132)) w1.heap.size 132 (List.replicate 7 0)) := heap_alloc_new w1 _
    have HS := Lib.hid hs7
    have hsz := hb1.size
    have HB := Lib.hid (hb1.alloc hsz (Obj.cells #[.int .u8 0, .int .u8 0, .int .u8 0, .int .u8 0, .int .u8 0, .int .u8 0, .int .u8 0] 132))
    clear hs7
    unfold arrV
    have kc := fun W => run_bytes_of_string (P := Tryd.prog) W 9 37 5 s Tryd.underlying9 Tryd.underlying37 Tryd.underlying5
    go_wp2_with (refine wpList_store_arr rfl _ _ _ rfl w1.heap.size _ rfl rfl 132 _ HZ.out (by rw [HS.out]; kernel_rfl) (by rw [HS.out]; rfl) w.heap.size w HB.out hsz ?_; intro w2 hs2 hb2 hz2)
    clear kc
    have hf2 : Sl8 w2 (some ⟨w1.heap.size, 0, none⟩) 4 7 (leL s.data.toList.length 4) := by
      have := hs2.out.front (k := 4) (by rw [HS.out]; decide) (by rw [HS.out]; decide)
      rw [HS.out, HST.out] at this
      exact this
    have h3 := (Sls.three ((h.below hb2).alloc (Obj.cells (bytesRow s (grownCap w2 s.size 0 5)) 5 ((bytesRow s (grownCap w2 s.size 0 5)).size, (bytesRow s (grownCap w2 s.size 0 5)).size + 1))) (hf2.alloc _) (Sl8.made w2 w2 s 5 5 hs) 37).drew
    have e3 : (w2.alloc (Obj.cells (bytesRow s (grownCap w2 s.size 0 5)) 5 ((bytesRow s (grownCap w2 s.size 0 5)).size, (bytesRow s (grownCap w2 s.size 0 5)).size + 1))).heap.size = w2.heap.size + 1 := by simp
    rw [e3] at h3
    refine (concat_any _ [l, leL s.data.toList.length 4, s.data.toList] _ h3 (by simp) ?_).mono ?_
    · simp only [wSumL, List.map_cons, List.map_nil, List.sum_cons, List.sum_nil, leL_len]
      have := HSZ.out
      omega
    rintro e w4 ⟨v, rfl, hown, hb4⟩
    obtain ⟨A', c', rfl, hA'⟩ := Sl8.of_own hown
    have hb5 : Below w.heap.size w w4 := ((hb2.alloc hb2.size _).alloc (by simp; have := hb2.size; omega) _).drew.trans (hb4.mono (by simp; have := hb2.size; omega))
    have H5 := Lib.hid hA'
    clear hown hA' hb4 hf2 hs2
    go_wp2_with fail
    go_ret2
    rw [HG.out.1, HG.out.2]
    exact ⟨A', _, c', rfl, by simpa using H5.out, hb5⟩

end Go.Proofs.YthhlcecojeaalaaDoor
end

/-
  Contracts of the reference's Put, PutText and Same.
-/
section
namespace Go.Proofs.YthhlcecojeaalaaDoor
open Go.RowKit

theorem wR_same (A A' : Option Addr) (n n' c c' : Nat) (l l' : List UInt8) (w : World) (h : Sl8 w A n c l) (h' : Sl8 w A' n' c' l') :
    Calls Tryd.prog 20 #[.slice A n c, .slice A' n' c'] w fun e w' => e = .returned (.bool (l == l')) ∧ w = w' := by
  have k1 := run_str Tryd.prog w 37 5 Tryd.underlying37 Tryd.underlying5 h 9 Tryd.underlying9
  have k2 := run_str Tryd.prog w 37 5 Tryd.underlying37 Tryd.underlying5 h' 9 Tryd.underlying9
  have hl := Lib.hid (same_list l l')
  go_enter Tryd.func20, Tryd.ntmps20
  go_wp2
  go_ret
  exact ⟨ret_bool hl.out, rfl⟩

end Go.Proofs.YthhlcecojeaalaaDoor
end

/-
  Contract of the reference's Put.
-/
section
namespace Go.Proofs.YthhlcecojeaalaaDoor
open Go.RowKit

theorem q_zero {q p N : Nat} (h : q = N / p) (hp : 0 < p) : q = 0 ↔ N < p := by
  subst h
  rw [Nat.div_eq_zero_iff]
  omega

/-- Bytes in memory of the call's own, that may be appended to, and a code. -/
def Own2 (w : World) (l : List UInt8) (code : Int) (e : Ending) (w' : World) : Prop :=
  ∃ v, e = .returned (.tuple #[v, .int .i64 code]) ∧ Own8 w' w.heap.size 5 v l ∧ Below w.heap.size w w'
theorem Own2.bytes {w : World} {l : List UInt8} {code : Int} {e : Ending} {w' : World} (h : Own2 w l code e w') : Bytes2 w l code e w' := by
  obtain ⟨v, he, ho, hb⟩ := h
  obtain ⟨A, c, rfl, hs⟩ := ho.sl8
  exact ⟨A, _, c, he, hs, hb⟩

theorem byte_mod (z : Int) : ∃ x : UInt8, z % 256 = (x.toNat : Int) := by
  refine ⟨UInt8.ofNat (z % 256).toNat, ?_⟩
  rw [ofNat_byte]
  omega
theorem tdiv_neg (p : Int) (h : p ≤ 0) : p ≤ p.tdiv 256 ∧ p.tdiv 256 ≤ 0 := by
  obtain ⟨m, hm⟩ := Int.eq_ofNat_of_zero_le (show 0 ≤ -p by omega)
  have e : p.tdiv 256 = -((m / 256 : Nat) : Int) := by
    rw [show p = -(m : Int) by omega, Int.neg_tdiv]
    rfl
  rw [e]
  omega

set_option maxHeartbeats 2000000 in
set_option maxRecDepth 100000 in
theorem r_put_own (A : Option Addr) (n c : Nat) (l : List UInt8) (N k : Int) (w : World) (h : Sl8 w A n c l) (hl : l.length ≤ 10000000) (hN0 : -9223372036854775808 ≤ N) (hN1 : N ≤ 9223372036854775807) (hk0 : -9223372036854775808 ≤ k) (hk1 : k ≤ 9223372036854775807) :
    Calls Tryd.prog 55 #[.slice A n c, .int .i64 N, .int .i64 k] w (Own2 w (wPutL l N k) (putE N k)) := by
  rcases Bool.eq_false_or_eq_true (wideB k) with hw | hw
  · have hwk := wideB_yes.1 hw
    obtain ⟨K, rfl⟩ := Int.eq_ofNat_of_zero_le (show 0 ≤ k by omega)
    have HW := Lib.hid hw
    have hln := h.len
    have H := Lib.hid h
    have HO := Lib.hid (Own8.start w 5)
    have hb0 : Below w.heap.size w (w.alloc (.cells #[] 5)) := (Below.refl _ _).alloc (Nat.le_refl _) _
    clear hw hln
    by_cases hN : N < 0
    · have HG := Lib.hid (put_range HW.out (.inl hN) l)
      go_enter Tryd.func55, Tryd.ntmps55
      go_wp2_with (at_builtin; refine wpList_append_sl8 rfl _ _ 37 rfl w.heap.size 5 Tryd.underlying37 Tryd.infoU8 _ rfl [] HO.out A n c rfl l (H.out.alloc _) (by simp; omega) (by simp) w hb0 ?_; intro v' w2 hown hbel hsz2)
      rw [List.nil_append] at hown
      go_loopw [8, 9, 10] (fun v q i wr => ∃ (j : Nat) (p : Int) (X : List UInt8), j ≤ K ∧ i = .int .i64 j ∧ q = .int .i64 p ∧ -9223372036854775808 ≤ p ∧ p ≤ 0 ∧ X.length ≤ 10000000 + j ∧ Hid (Own8 wr w.heap.size 5 v X) ∧ Below w.heap.size w wr) (fun _ _ i _ => K - (intOf i).toNat)
      case atStart => exact ⟨0, N, l, Nat.zero_le _, rfl, rfl, hN0, by omega, by omega, hown, hbel⟩
      case round =>
        clear hown hbel hb0
        obtain ⟨j, p, X, hj, rfl, rfl, hp0, hp1, hXl, hown, hbel⟩ := hrel
        have hbs := hbel.size
        by_cases hlt : j < K
        · obtain ⟨x, hx⟩ := byte_mod (p.tmod 256)
          have HB := Lib.hid (hbel.alloc hbs (Obj.cells #[.int .u8 (p.tmod 256 % 256)] 5))
          have hS := Lib.hid (Sl8.one wr 5 x hx)
          have HD := Lib.hid (tdiv_neg p (by omega))
          clear hx
          go_wp2_with (at_builtin; refine wpList_append_sl8 rfl _ _ 37 rfl w.heap.size 5 Tryd.underlying37 Tryd.infoU8 _ rfl X (hown.out.alloc _) _ 1 1 rfl [x] hS.out (by simp; omega) (by simp; omega) w HB.out ?_; intro v2 w3 hown3 hbel3 hsz3)
          go_roundw
          case rel => exact ⟨j + 1, p.tdiv 256, X ++ [x], by omega, by go_num, by first | rfl | go_num, by have := HD.out; omega, by have := HD.out; omega, by simp; omega, hown3, hbel3⟩
          case measure => simp [intOf]; omega
        · obtain rfl : j = K := by omega
          have HBL := Lib.hid hbel
          clear hbel hown
          go_wp2_with fail
          go_ret2
          rw [HG.out.1, HG.out.2]
          exact ⟨_, rfl, World.ownsRow_nil _ _ _ _, HBL.out⟩
    · obtain ⟨M, rfl⟩ := Int.eq_ofNat_of_zero_le (show 0 ≤ N by omega)
      go_enter Tryd.func55, Tryd.ntmps55
      go_wp2_with (at_builtin; refine wpList_append_sl8 rfl _ _ 37 rfl w.heap.size 5 Tryd.underlying37 Tryd.infoU8 _ rfl [] HO.out A n c rfl l (H.out.alloc _) (by simp; omega) (by simp) w hb0 ?_; intro v' w2 hown hbel hsz2)
      rw [List.nil_append] at hown
      go_loopw [8, 9, 10] (fun v q i wr => ∃ (j p : Nat) (X : List UInt8), j ≤ K ∧ i = .int .i64 j ∧ q = .int .i64 p ∧ Hid (p = M / 256 ^ j) ∧ p ≤ M ∧ Hid (X = l ++ leL M j) ∧ X.length ≤ 10000007 ∧ Hid (Own8 wr w.heap.size 5 v X) ∧ Below w.heap.size w wr) (fun _ _ i _ => K - (intOf i).toNat)
      case atStart => exact ⟨0, M, l, Nat.zero_le _, rfl, rfl, by show M = _; simp, Nat.le_refl _, by show l = _; rw [leL_zero]; simp, by omega, hown, hbel⟩
      case round =>
        clear hown hbel hb0
        obtain ⟨j, p, X, hj, rfl, rfl, hp, hpM, hX, hXl, hown, hbel⟩ := hrel
        have hbs := hbel.size
        by_cases hlt : j < K
        · have hb2 : Below w.heap.size w (wr.alloc (.cells #[.int .u8 ((p : Int) % 256)] 5)) := hbel.alloc hbs _
          have hS := Lib.hid (Sl8.one wr 5 (UInt8.ofNat p) (z := (p : Int) % 256) (by rw [ofNat_byte]; simp))
          have hXL : X.length ≤ 10000006 := by
            have := congrArg List.length hX.out
            rw [List.length_append, leL_len] at this
            omega
          have HB := Lib.hid hb2
          clear hb2
          go_wp2_with (at_builtin; refine wpList_append_sl8 rfl _ _ 37 rfl w.heap.size 5 Tryd.underlying37 Tryd.infoU8 _ rfl X (hown.out.alloc _) _ 1 1 rfl [UInt8.ofNat p] hS.out (by simp; omega) (by simp; omega) w HB.out ?_; intro v2 w3 hown3 hbel3 hsz3)
          go_roundw
          case rel => exact ⟨j + 1, p / 256, X ++ [UInt8.ofNat p], by omega, by go_num, by go_num, by show _ = _; rw [hp.out, Nat.pow_succ, Nat.div_div_eq_div_mul], by omega, by show _ = _; rw [hX.out, leL_succ, hp.out, List.append_assoc], by simp; omega, hown3, hbel3⟩
          case measure => simp [intOf]; omega
        · obtain rfl : j = K := by omega
          have hq := q_zero hp.out (Nat.pow_pos (by decide : 0 < 256))
          have HQ := Lib.hid hq
          have HBL := Lib.hid hbel
          clear hq hbel
          go_wp2_with fail
          · have h3 : (M : Int) < 0 ∨ 0 < p := by assumption
            have hg := put_range (n := (M : Int)) HW.out (.inr (by
              have := HQ.out
              rw [Int.toNat_natCast, pow_int]
              omega)) l
            go_ret2
            rw [hg.1, hg.2]
            exact ⟨_, rfl, World.ownsRow_nil _ _ _ _, HBL.out⟩
          · have h3 : 0 ≤ (M : Int) ∧ ¬ 0 < p := by assumption
            have hg := put_ok (n := (M : Int)) HW.out (by
              have := HQ.out
              rw [Int.toNat_natCast, pow_int]
              omega) l
            go_ret2
            rw [hg.1, hg.2]
            simp only [Int.toNat_natCast]
            rw [← hX.out]
            exact ⟨_, rfl, hown.out, HBL.out⟩
  · have HG := Lib.hid (put_wide (n := N) hw l)
    rcases wideB_no.1 hw with h1 | h1
    all_goals
      clear hw
      go_enter Tryd.func55, Tryd.ntmps55
      go_wp2_with fail
      go_ret2
      rw [HG.out.1, HG.out.2]
      exact ⟨_, rfl, World.ownsRow_nil _ _ _ _, Below.refl _ _⟩

theorem wR_put (A : Option Addr) (n c : Nat) (l : List UInt8) (N k : Int) (w : World) (h : Sl8 w A n c l) (hl : l.length ≤ 10000000) (hN0 : -9223372036854775808 ≤ N) (hN1 : N ≤ 9223372036854775807) (hk0 : -9223372036854775808 ≤ k) (hk1 : k ≤ 9223372036854775807) :
    Calls Tryd.prog 55 #[.slice A n c, .int .i64 N, .int .i64 k] w (Bytes2 w (wPutL l N k) (putE N k)) :=
  (r_put_own A n c l N k w h hl hN0 hN1 hk0 hk1).mono fun _ _ h => h.bytes

end Go.Proofs.YthhlcecojeaalaaDoor
end
