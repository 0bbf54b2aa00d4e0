/-
  Texts that the laws of this seat lean on, one behind the other.
-/
import Derived.Test.YtmkjjidilfhojaaDoorMrgB
/-
  Plain facts on trimmed texts, without the program: a trimmed text has no blank at its ends, and blanks added to it are taken off again (P1.4).
-/
section
namespace Go.Proofs.YtmkjjidilfhojaaDoor

/-- No blank stands at an end. -/
structure Edge (l : List UInt8) : Prop where
  front : l.dropWhile blkU = l
  back : rdw l = l

theorem rdw_idem (l : List UInt8) : rdw (rdw l) = rdw l := by
  unfold rdw
  rw [List.reverse_reverse]
  congr 1
  induction l.reverse with
  | nil => rfl
  | cons a r ih =>
    by_cases h : blkU a = true
    · rw [List.dropWhile_cons_of_pos h]; exact ih
    · rw [List.dropWhile_cons_of_neg h, List.dropWhile_cons_of_neg h]

theorem rdw_prefix (l : List UInt8) : rdw l <+: l := by
  unfold rdw
  have := List.dropWhile_suffix blkU (l := l.reverse)
  have h2 := List.reverse_prefix.2 this
  rwa [List.reverse_reverse] at h2

theorem dw_head {l : List UInt8} (h : l.dropWhile blkU = l) : l = [] ∨ ∃ a r, l = a :: r ∧ blkU a = false := by
  cases l with
  | nil => exact .inl rfl
  | cons a r =>
    refine .inr ⟨a, r, rfl, ?_⟩
    cases hb : blkU a with
    | false => rfl
    | true =>
      rw [List.dropWhile_cons_of_pos hb] at h
      have := congrArg List.length h
      have h2 := (List.dropWhile_suffix blkU (l := r)).length_le
      simp at this
      omega

theorem dw_of_head {l : List UInt8} (h : l = [] ∨ ∃ a r, l = a :: r ∧ blkU a = false) : l.dropWhile blkU = l := by
  rcases h with rfl | ⟨a, r, rfl, h⟩
  · rfl
  · exact List.dropWhile_cons_of_neg (by rw [h]; decide)

theorem dw_idem (l : List UInt8) : (l.dropWhile blkU).dropWhile blkU = l.dropWhile blkU := by
  induction l with
  | nil => rfl
  | cons a r ih =>
    by_cases h : blkU a = true
    · rw [List.dropWhile_cons_of_pos h]; exact ih
    · rw [List.dropWhile_cons_of_neg h, List.dropWhile_cons_of_neg h]

theorem trim_edge (l : List UInt8) : Edge (trimL l) := by
  refine ⟨?_, rdw_idem _⟩
  unfold trimL
  have hp := rdw_prefix (l.dropWhile blkU)
  apply dw_of_head
  rcases dw_head (dw_idem l) with h | ⟨a, r, h, hb⟩
  · rw [h]; exact .inl rfl
  · obtain ⟨z, hz⟩ := hp
    cases hr : rdw (l.dropWhile blkU) with
    | nil => exact .inl rfl
    | cons b s =>
      rw [hr, h] at hz
      injection hz with h1 h2
      subst h1
      exact .inr ⟨b, s, rfl, hb⟩

theorem trim_of_edge {l : List UInt8} (h : Edge l) : trimL l = l := by
  unfold trimL
  rw [h.front, h.back]

theorem dw_pad (k : Nat) (l : List UInt8) : (List.replicate k 32 ++ l).dropWhile blkU = l.dropWhile blkU := by
  induction k with
  | zero => rfl
  | succ k ih => rw [List.replicate_succ, List.cons_append, List.dropWhile_cons_of_pos (by decide), ih]

theorem rdw_pad (j : Nat) (l : List UInt8) : rdw (l ++ List.replicate j 9) = rdw l := by
  unfold rdw
  rw [List.reverse_append, List.reverse_replicate]
  congr 1
  induction j with
  | zero => rfl
  | succ j ih => rw [List.replicate_succ, List.cons_append, List.dropWhile_cons_of_pos (by decide), ih]

theorem trim_pad {l : List UInt8} (h : Edge l) (k j : Nat) : trimL (List.replicate k 32 ++ l ++ List.replicate j 9) = l := by
  unfold trimL
  rw [List.append_assoc, dw_pad]
  rcases dw_head h.front with e | ⟨a, r, e, hb⟩
  · subst e
    have : (([] : List UInt8) ++ List.replicate j 9).dropWhile blkU = [] := by
      rw [List.nil_append]
      induction j with
      | zero => rfl
      | succ j ih => rw [List.replicate_succ, List.dropWhile_cons_of_pos (by decide), ih]
    rw [this]; rfl
  · rw [dw_of_head (.inr ⟨a, r ++ List.replicate j 9, by rw [e]; rfl, hb⟩), rdw_pad, h.back]

/-- The first and the last byte of such a text are no blanks. -/
theorem edge_first {t : ByteArray} (h : Edge t.data.toList) (h0 : 0 < t.size) : blkB (t[0].toNat : Int) = false := by
  cases hb : blkB (t[0].toNat : Int) with
  | false => rfl
  | true =>
    have h1 := dw_yes t 0 h0 hb
    have h2 := h.front
    rw [List.drop_zero] at h1
    rw [h2] at h1
    have h3 := congrArg List.length h1
    have h4 := (List.dropWhile_suffix blkU (l := t.data.toList.drop (0 + 1))).length_le
    rw [List.length_drop, ← Lib.size_eq] at h4
    rw [← Lib.size_eq] at h3
    omega
theorem edge_last {t : ByteArray} (h : Edge t.data.toList) (j : Nat) (hj : t.size = j + 1) : blkB ((t[j]'(by omega)).toNat : Int) = false := by
  cases hb : blkB ((t[j]'(by omega)).toNat : Int) with
  | false => rfl
  | true =>
    have h1 := rdw_tail t j hj hb
    rw [h.back] at h1
    have h3 := congrArg List.length h1
    have h4 := (rdw_prefix (t.extract 0 j).data.toList).length_le
    have h5 : (t.extract 0 j).data.toList.length ≤ j := by rw [Lib.extract_data, List.length_take]; omega
    have h6 := Lib.size_eq t
    omega
theorem not_blank {c : Int} (h : blkB c = false) : (c == 32) = false ∧ (c == 9) = false := by
  unfold blkB at h
  simpa using h

theorem pre_list (b : UInt8) (x : ByteArray) : ((⟨#[b]⟩ : ByteArray) ++ x).data.toList = b :: x.data.toList := by simp
theorem post_list (b : UInt8) (x : ByteArray) : (x ++ (⟨#[b]⟩ : ByteArray)).data.toList = x.data.toList ++ [b] := by simp
theorem pre_size (b : UInt8) (x : ByteArray) : ((⟨#[b]⟩ : ByteArray) ++ x).size = x.size + 1 := by rw [Lib.size_eq, pre_list, List.length_cons, ← Lib.size_eq]
theorem post_size (b : UInt8) (x : ByteArray) : (x ++ (⟨#[b]⟩ : ByteArray)).size = x.size + 1 := by rw [Lib.size_eq, post_list, List.length_append, ← Lib.size_eq]; rfl

/-- The parts of a text, and the byte between them, form it. -/
theorem cut_joins (s : ByteArray) (i : Nat) (h : i < s.size) : s.extract 0 i ++ (⟨#[s[i]]⟩ : ByteArray) ++ s.extract (i + 1) s.size = s := by
  have : (s.extract 0 i ++ (⟨#[s[i]]⟩ : ByteArray) ++ s.extract (i + 1) s.size).data.toList = s.data.toList := by
    have e1 : (s.extract 0 i).data.toList = s.data.toList.take i := by rw [Lib.extract_data]; simp
    have e2 := Lib.extract_to_end s (i + 1)
    rw [ByteArray.data_append, ByteArray.data_append, Array.toList_append, Array.toList_append, e1, e2]
    show s.data.toList.take i ++ [s[i]] ++ s.data.toList.drop (i + 1) = s.data.toList
    rw [← take_snoc s i h, List.take_append_drop]
  rw [mkS_eq this, mkS_self]

theorem tmod9 (a : Int) : -8 ≤ a.tmod 9 ∧ a.tmod 9 ≤ 8 := by
  by_cases h : 0 ≤ a
  · rw [Int.tmod_eq_emod_of_nonneg h]; omega
  · obtain ⟨b, rfl⟩ : ∃ b, a = -b := ⟨-a, by omega⟩
    rw [Int.neg_tmod, Int.tmod_eq_emod_of_nonneg (by omega)]; omega

end Go.Proofs.YtmkjjidilfhojaaDoor
end
