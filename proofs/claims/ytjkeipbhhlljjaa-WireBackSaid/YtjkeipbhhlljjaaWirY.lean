/-
  Plain facts: what was put one behind the other is read one behind the other (P3.3).
-/
import Derived.Test.YtjkeipbhhlljjaaWirO
namespace Go.Proofs.Ytjkeipbhhlljjaa

/-- Integers of five bytes, each followed by a text. -/
def encL (z : List Int) (s : List UInt8) : List UInt8 := z.flatMap fun n => leL n.toNat 5 ++ (leL s.length 4 ++ s)
theorem encL_len (z : List Int) (s : List UInt8) : (encL z s).length = z.length * (9 + s.length) := by
  induction z with
  | nil => simp [encL]
  | cons a r ih =>
    have : encL (a :: r) s = (leL a.toNat 5 ++ (leL s.length 4 ++ s)) ++ encL r s := by simp [encL]
    rw [this, List.length_append, ih]
    simp only [List.length_append, leL_len, List.length_cons, Nat.succ_mul]
    omega
theorem encL_succ (z : List Int) (s : List UInt8) (j : Nat) (h : j < z.length) : encL (z.take (j + 1)) s = (encL (z.take j) s ++ leL z[j].toNat 5) ++ (leL s.length 4 ++ s) := by
  unfold encL
  rw [List.take_succ_eq_append_getElem h, List.flatMap_append, List.append_assoc]
  simp
theorem encL_drop (z : List Int) (s : List UInt8) (j : Nat) (h : j < z.length) : encL (z.drop j) s = leL z[j].toNat 5 ++ (leL s.length 4 ++ (s ++ encL (z.drop (j + 1)) s)) := by
  unfold encL
  rw [List.drop_eq_getElem_cons h, List.flatMap_cons, List.append_assoc, List.append_assoc]

theorem get_front (n k : Nat) (t : List UInt8) (hk : 1 ≤ k) (hk7 : k ≤ 7) (hn : n < 256 ^ k) : getE (leL n k ++ t) 0 k = 0 ∧ getV (leL n k ++ t) 0 k = n := by
  have h := get_ok (l := leL n k ++ t) (i := 0) (k := k) (wideB_yes.2 ⟨by omega, by omega⟩) (by rw [List.length_append, leL_len]; omega)
  refine ⟨h.1, ?_⟩
  rw [h.2]
  simp only [Int.toNat_zero, List.drop_zero, Int.toNat_natCast]
  rw [List.take_left' (leL_len n k), deL_leL_of_lt hn]

theorem num_front (n : Int) (t : List UInt8) (h0 : 0 ≤ n) (h1 : n < 1099511627776) : getE (leL n.toNat 5 ++ t) 0 5 = 0 ∧ getV (leL n.toNat 5 ++ t) 0 5 = n ∧ (leL n.toNat 5 ++ t).drop (numK (leL n.toNat 5 ++ t) 5) = t := by
  have h : getE (leL n.toNat 5 ++ t) 0 5 = 0 ∧ getV (leL n.toNat 5 ++ t) 0 5 = (n.toNat : Int) := get_front n.toNat 5 t (by omega) (by omega) (by omega)
  have hk : numK (leL n.toNat 5 ++ t) 5 = 5 := by unfold numK; rw [if_pos h.1]; rfl
  refine ⟨h.1, by rw [h.2]; omega, ?_⟩
  rw [hk]
  exact List.drop_left' (leL_len _ _)

theorem text_front (s t : List UInt8) (h : s.length ≤ 65536) : textE (leL s.length 4 ++ (s ++ t)) = 0 ∧ textV (leL s.length 4 ++ (s ++ t)) = s ∧ (leL s.length 4 ++ (s ++ t)).drop (textK (leL s.length 4 ++ (s ++ t))) = t := by
  have hg := get_front s.length 4 (s ++ t) (by omega) (by omega) (by omega)
  obtain ⟨m, hm⟩ : ∃ m, m = leL s.length 4 ++ (s ++ t) := ⟨_, rfl⟩
  have hml : m.length = 4 + (s.length + t.length) := by rw [hm, List.length_append, leL_len, List.length_append]
  have hd : m.drop 4 = s ++ t := by rw [hm]; exact List.drop_left' (leL_len _ _)
  rw [← hm] at hg ⊢
  obtain ⟨g0, g1⟩ := hg
  rcases text_cs m with ⟨h0, _⟩ | ⟨_, h0, _⟩ | ⟨_, _, h0, _⟩ | ⟨_, _, _, e0, e1, e2⟩
  · exact absurd g0 h0
  · rw [show (4 : Int) = ((4 : Nat) : Int) from rfl, g1] at h0
    omega
  · rw [show getV m 0 4 = (s.length : Int) from g1] at h0
    omega
  · rw [show getV m 0 4 = (s.length : Int) from g1] at e1 e2
    refine ⟨e0, ?_, ?_⟩
    · rw [e1, hd]
      exact List.take_left' (by simp)
    · rw [e2, ← List.drop_drop, hd]
      exact List.drop_left' (by simp)

theorem put_five (l : List UInt8) (n : Int) (h0 : 0 ≤ n) (h1 : n < 1099511627776) : putE n 5 = 0 ∧ putL l n 5 = l ++ leL n.toNat 5 :=
  put_ok (k := 5) rfl (by
    have : (256 : Int) ^ ((5 : Int)).toNat = 1099511627776 := rfl
    rw [this]
    omega) l

end Go.Proofs.Ytjkeipbhhlljjaa
