/-
  Contracts of Num, Flag and Text of package wire.
-/
import Derived.Test.YtjkeipbhhlljjaaWirN
namespace Go.Proofs.Ytjkeipbhhlljjaa
open Go.RowKit

/-! ### What a Reader tells of the bytes that are left -/
/-- How many bytes Num takes. -/
def numK (m : List UInt8) (k : Int) : Nat := if getE m 0 k = 0 then k.toNat else 0
def flagE (m : List UInt8) : Int := if getE m 0 1 = 0 then (if 1 < getV m 0 1 then 5 else 0) else getE m 0 1
def flagV (m : List UInt8) : Bool := if flagE m = 0 then getV m 0 1 == 1 else false
def flagK (m : List UInt8) : Nat := if flagE m = 0 then 1 else 0
def textE (m : List UInt8) : Int := if getE m 0 4 = 0 then (if 65536 < getV m 0 4 then 4 else if (m.length : Int) - 4 < getV m 0 4 then 6 else 0) else getE m 0 4
def textV (m : List UInt8) : List UInt8 := if textE m = 0 then (m.drop 4).take (getV m 0 4).toNat else []
def textK (m : List UInt8) : Nat := if textE m = 0 then 4 + (getV m 0 4).toNat else 0

/-- What a call of a Reader's method answers, and what is left. -/
def Reads1 (R t : Nat) (v : Value) (rest : List UInt8) (w : World) (e : Ending) (w' : World) : Prop := e = .returned v ∧ Hold1 w' R t rest ∧ ButB R w w'

theorem get_len {m : List UInt8} {k : Int} (h : getE m 0 k = 0) : 1 ≤ k ∧ k ≤ 7 ∧ k ≤ m.length := by
  unfold getE at h
  split at h
  · cases h
  · rename_i hw
    have := wideB_yes.1 (by simpa using hw)
    split at h
    · cases h
    · omega
theorem get_err {m : List UInt8} {i k : Int} (h : getE m i k ≠ 0) : getV m i k = 0 := by unfold getV; rw [if_neg h]

theorem num_nil (k : Int) (w : World) : Calls Try.prog 20 #[.pointer none, .int .i64 k] w fun e w' => e = .returned (.tuple #[.int .i64 0, .int .i64 1]) ∧ w = w' := by
  go_enter Try.func20, Try.ntmps20
  go_wp2_with fail
  refine (peek_nil k _).mono ?_
  rintro e w1 ⟨rfl, rfl⟩
  go_wp2_with fail
  go_ret2
  exact ⟨rfl, rfl⟩

set_option maxHeartbeats 1000000 in
set_option maxRecDepth 100000 in
theorem num_any (R : Nat) (m : List UInt8) (k : Int) (w : World) (h : Hold1 w R 63 m) (hk0 : -9223372036854775808 ≤ k) (hk1 : k ≤ 9223372036854775807) :
    Calls Try.prog 20 #[.pointer (some ⟨R, 0, none⟩), .int .i64 k] w (Reads1 R 63 (.tuple #[.int .i64 (getV m 0 k), .int .i64 (getE m 0 k)]) (m.drop (numK m k)) w) := by
  obtain ⟨E, hE⟩ : ∃ E, E = getE m 0 k := ⟨_, rfl⟩
  obtain ⟨V, hV⟩ : ∃ V, V = getV m 0 k := ⟨_, rfl⟩
  by_cases h0 : E = 0
  · have hl := get_len (m := m) (k := k) (by rw [← hE]; exact h0)
    obtain ⟨K, rfl⟩ := Int.eq_ofNat_of_zero_le (show 0 ≤ k by omega)
    have HN := Lib.hid (show numK m K = K by unfold numK; rw [if_pos (by rw [← hE]; exact h0)]; rfl)
    have HE := Lib.hid (And.intro hE (And.intro hV h0))
    clear hE hV h0
    go_enter Try.func20, Try.ntmps20
    go_wp2_with fail
    refine (peek_any R m K _ h hk0 hk1).mono ?_
    rintro e w1 ⟨he, hb⟩
    rw [← HE.out.1, ← HE.out.2.1, HE.out.2.2] at he
    subst he
    go_wp2_with fail
    refine (take_any R m K _ (h.below hb) (by omega)).mono ?_
    rintro e w2 ⟨A, c, rfl, hs, hh, hb2⟩
    have HR := Lib.hid (And.intro hh ((ButB.of_below hb).trans hb2))
    clear hs hh hb2
    go_wp2_with fail
    go_ret2
    rw [HN.out, ← HE.out.1, ← HE.out.2.1, HE.out.2.2]
    exact ⟨rfl, HR.out.1, HR.out.2⟩
  · have HN := Lib.hid (show numK m k = 0 by unfold numK; rw [if_neg (by rw [← hE]; exact h0)])
    have h0' : (E == 0) = false := by simpa using h0
    have h0'' : (E != 0) = true := by simpa using h0
    have HE := Lib.hid (And.intro hE (And.intro hV (get_err (m := m) (i := 0) (k := k) (by rw [← hE]; exact h0))))
    clear hE hV
    go_enter Try.func20, Try.ntmps20
    go_wp2_with fail
    refine (peek_any R m k _ h hk0 hk1).mono ?_
    rintro e w1 ⟨he, hb⟩
    rw [← HE.out.1, ← HE.out.2.1] at he
    subst he
    go_wp2_with fail
    go_ret2
    rw [HN.out, ← HE.out.1, HE.out.2.2]
    exact ⟨rfl, h.below hb, ButB.of_below hb⟩

theorem flag_cs (m : List UInt8) : (getE m 0 1 ≠ 0 ∧ flagE m = getE m 0 1 ∧ flagV m = false ∧ flagK m = 0) ∨ (getE m 0 1 = 0 ∧ 1 < getV m 0 1 ∧ flagE m = 5 ∧ flagV m = false ∧ flagK m = 0) ∨
    (getE m 0 1 = 0 ∧ ¬ 1 < getV m 0 1 ∧ flagE m = 0 ∧ flagV m = (getV m 0 1 == 1) ∧ flagK m = 1) := by
  by_cases h : getE m 0 1 = 0
  · by_cases h1 : 1 < getV m 0 1
    · have e : flagE m = 5 := by unfold flagE; rw [if_pos h, if_pos h1]
      exact .inr (.inl ⟨h, h1, e, by unfold flagV; rw [e]; rfl, by unfold flagK; rw [e]; rfl⟩)
    · have e : flagE m = 0 := by unfold flagE; rw [if_pos h, if_neg h1]
      exact .inr (.inr ⟨h, h1, e, by unfold flagV; rw [if_pos e], by unfold flagK; rw [if_pos e]⟩)
  · have e : flagE m = getE m 0 1 := by unfold flagE; rw [if_neg h]
    exact .inl ⟨h, e, by unfold flagV; rw [if_neg (by rw [e]; exact h)], by unfold flagK; rw [if_neg (by rw [e]; exact h)]⟩

set_option maxHeartbeats 1000000 in
set_option maxRecDepth 100000 in
theorem flag_any (R : Nat) (m : List UInt8) (w : World) (h : Hold1 w R 63 m) :
    Calls Try.prog 18 #[.pointer (some ⟨R, 0, none⟩)] w (Reads1 R 63 (.tuple #[.bool (flagV m), .int .i64 (flagE m)]) (m.drop (flagK m)) w) := by
  obtain ⟨E, hE⟩ : ∃ E, E = getE m 0 1 := ⟨_, rfl⟩
  obtain ⟨V, hV⟩ : ∃ V, V = getV m 0 1 := ⟨_, rfl⟩
  have hcs := flag_cs m
  rw [← hE, ← hV] at hcs
  have HE := Lib.hid hE
  have HV := Lib.hid hV
  clear hE hV
  rcases hcs with ⟨h0, h1, h2, h3⟩ | ⟨h0, h1, h2⟩ | ⟨h0, h1, h2⟩
  · have h0' : (E == 0) = false := by simpa using h0
    have h0'' : (E != 0) = true := by simpa using h0
    have HC := Lib.hid (And.intro h1 (And.intro h2 h3))
    clear h1 h2 h3
    go_enter Try.func18, Try.ntmps18
    go_wp2_with fail
    refine (peek_any R m 1 _ h (by omega) (by omega)).mono ?_
    rintro e w1 ⟨he, hb⟩
    rw [← HE.out, ← HV.out] at he
    subst he
    go_wp2_with fail
    go_ret2
    rw [HC.out.1, HC.out.2.1, HC.out.2.2]
    exact ⟨rfl, h.below hb, ButB.of_below hb⟩
  · have HC := Lib.hid h2
    have HZ := Lib.hid h0
    clear h2 h0
    go_enter Try.func18, Try.ntmps18
    go_wp2_with fail
    refine (peek_any R m 1 _ h (by omega) (by omega)).mono ?_
    rintro e w1 ⟨he, hb⟩
    rw [← HE.out, ← HV.out, HZ.out] at he
    subst he
    go_wp2_with fail
    go_ret2
    rw [HC.out.1, HC.out.2.1, HC.out.2.2]
    exact ⟨rfl, h.below hb, ButB.of_below hb⟩
  · have hl := get_len (m := m) (k := 1) (by rw [← HE.out]; exact h0)
    have HC := Lib.hid h2
    have HZ := Lib.hid h0
    clear h2 h0
    go_enter Try.func18, Try.ntmps18
    go_wp2_with fail
    refine (peek_any R m 1 _ h (by omega) (by omega)).mono ?_
    rintro e w1 ⟨he, hb⟩
    rw [← HE.out, ← HV.out, HZ.out] at he
    subst he
    go_wp2_with fail
    refine (take_any R m 1 _ (h.below hb) (by omega)).mono ?_
    rintro e w2 ⟨A, c, rfl, hs, hh, hb2⟩
    have HR := Lib.hid (And.intro hh ((ButB.of_below hb).trans hb2))
    clear hs hh hb2
    go_wp2_with fail
    go_ret2
    rw [HC.out.1, HC.out.2.1, HC.out.2.2]
    exact ⟨rfl, HR.out.1, HR.out.2⟩

theorem text_cs (m : List UInt8) : (getE m 0 4 ≠ 0 ∧ textE m = getE m 0 4 ∧ textV m = [] ∧ textK m = 0) ∨ (getE m 0 4 = 0 ∧ 65536 < getV m 0 4 ∧ textE m = 4 ∧ textV m = [] ∧ textK m = 0) ∨
    (getE m 0 4 = 0 ∧ ¬ 65536 < getV m 0 4 ∧ (m.length : Int) - 4 < getV m 0 4 ∧ textE m = 6 ∧ textV m = [] ∧ textK m = 0) ∨
    (getE m 0 4 = 0 ∧ ¬ 65536 < getV m 0 4 ∧ ¬ (m.length : Int) - 4 < getV m 0 4 ∧ textE m = 0 ∧ textV m = (m.drop 4).take (getV m 0 4).toNat ∧ textK m = 4 + (getV m 0 4).toNat) := by
  by_cases h : getE m 0 4 = 0
  · by_cases h1 : 65536 < getV m 0 4
    · have e : textE m = 4 := by unfold textE; rw [if_pos h, if_pos h1]
      exact .inr (.inl ⟨h, h1, e, by unfold textV; rw [e]; rfl, by unfold textK; rw [e]; rfl⟩)
    · by_cases h2 : (m.length : Int) - 4 < getV m 0 4
      · have e : textE m = 6 := by unfold textE; rw [if_pos h, if_neg h1, if_pos h2]
        exact .inr (.inr (.inl ⟨h, h1, h2, e, by unfold textV; rw [e]; rfl, by unfold textK; rw [e]; rfl⟩))
      · have e : textE m = 0 := by unfold textE; rw [if_pos h, if_neg h1, if_neg h2]
        exact .inr (.inr (.inr ⟨h, h1, h2, e, by unfold textV; rw [if_pos e], by unfold textK; rw [if_pos e]⟩))
  · have e : textE m = getE m 0 4 := by unfold textE; rw [if_neg h]
    exact .inl ⟨h, e, by unfold textV; rw [if_neg (by rw [e]; exact h)], by unfold textK; rw [if_neg (by rw [e]; exact h)]⟩

set_option maxHeartbeats 1000000 in
set_option maxRecDepth 100000 in
theorem text_any (R : Nat) (m : List UInt8) (w : World) (h : Hold1 w R 63 m) (hm : m.length ≤ 1000000) :
    Calls Try.prog 16 #[.pointer (some ⟨R, 0, none⟩)] w (Reads1 R 63 (.tuple #[.string (mkS (textV m)), .int .i64 (textE m)]) (m.drop (textK m)) w) := by
  obtain ⟨E, hE⟩ : ∃ E, E = getE m 0 4 := ⟨_, rfl⟩
  obtain ⟨V, hV⟩ : ∃ V, V = getV m 0 4 := ⟨_, rfl⟩
  have hV0 := get_bd m 0 4
  have hcs := text_cs m
  rw [← hE, ← hV] at hcs
  rw [← hV] at hV0
  have HE := Lib.hid hE
  have HV := Lib.hid hV
  clear hE hV
  rcases hcs with ⟨h0, h1, h2, h3⟩ | ⟨h0, h1, h2⟩ | ⟨h0, h1, h2, h3⟩ | ⟨h0, h1, h2, h3⟩
  · have h0' : (E == 0) = false := by simpa using h0
    have h0'' : (E != 0) = true := by simpa using h0
    have HC := Lib.hid (And.intro h1 (And.intro h2 h3))
    clear h1 h2 h3
    go_enter Try.func16, Try.ntmps16
    go_wp2_with fail
    refine (peek_any R m 4 _ h (by omega) (by omega)).mono ?_
    rintro e w1 ⟨he, hb⟩
    rw [← HE.out, ← HV.out] at he
    subst he
    go_wp2_with fail
    go_ret2
    rw [HC.out.1, HC.out.2.1, HC.out.2.2]
    exact ⟨rfl, h.below hb, ButB.of_below hb⟩
  · have HC := Lib.hid h2
    have HZ := Lib.hid h0
    clear h2 h0
    go_enter Try.func16, Try.ntmps16
    go_wp2_with fail
    refine (peek_any R m 4 _ h (by omega) (by omega)).mono ?_
    rintro e w1 ⟨he, hb⟩
    rw [← HE.out, ← HV.out, HZ.out] at he
    subst he
    go_wp2_with fail
    go_ret2
    rw [HC.out.1, HC.out.2.1, HC.out.2.2]
    exact ⟨rfl, h.below hb, ButB.of_below hb⟩
  · have HC := Lib.hid h3
    have HZ := Lib.hid h0
    clear h3 h0
    go_enter Try.func16, Try.ntmps16
    go_wp2_with fail
    refine (peek_any R m 4 _ h (by omega) (by omega)).mono ?_
    rintro e w1 ⟨he, hb⟩
    rw [← HE.out, ← HV.out, HZ.out] at he
    subst he
    go_wp2_with fail
    refine (left_any R m _ (h.below hb)).mono ?_
    rintro e w2 ⟨rfl, rfl⟩
    go_wp2_with fail
    go_ret2
    rw [HC.out.1, HC.out.2.1, HC.out.2.2]
    exact ⟨rfl, h.below hb, ButB.of_below hb⟩
  · have hl := get_len (m := m) (k := 4) (by rw [← HE.out]; exact h0)
    obtain ⟨N, rfl⟩ := Int.eq_ofNat_of_zero_le hV0.1
    have HC := Lib.hid h3
    have HZ := Lib.hid h0
    clear h3 h0 hV0
    go_enter Try.func16, Try.ntmps16
    go_wp2_with fail
    refine (peek_any R m 4 _ h (by omega) (by omega)).mono ?_
    rintro e w1 ⟨he, hb⟩
    rw [← HE.out, ← HV.out, HZ.out] at he
    subst he
    go_wp2_with fail
    refine (left_any R m _ (h.below hb)).mono ?_
    rintro e w2 ⟨rfl, rfl⟩
    go_wp2_with fail
    refine (take_any R m 4 _ (h.below hb) (by omega)).mono ?_
    rintro e w2 ⟨A, c, rfl, _, hh, hb2⟩
    have HB := Lib.hid ((ButB.of_below hb).trans hb2)
    clear hb2
    go_wp2_with fail
    refine (take_any R (m.drop 4) N _ hh (by rw [List.length_drop]; omega)).mono ?_
    rintro e w3 ⟨A', c', rfl, hs, hh3, hb3⟩
    have k1 := run_str Try.prog w3 22 5 Try.underlying22 Try.underlying5 hs 9 Try.underlying9
    obtain ⟨T, hT⟩ : ∃ T, T = (m.drop 4).take N := ⟨_, rfl⟩
    rw [← hT] at k1
    have HT := Lib.hid hT
    have HR := Lib.hid (And.intro hh3 (HB.out.trans hb3))
    clear hs hh3 hb3 hT hh
    go_wp2_with fail
    go_ret2
    rw [HC.out.1, HC.out.2.1, HC.out.2.2]
    refine ⟨by rw [HT.out]; rfl, ?_, HR.out.2⟩
    have := HR.out.1
    rw [List.drop_drop] at this
    exact this

end Go.Proofs.Ytjkeipbhhlljjaa
