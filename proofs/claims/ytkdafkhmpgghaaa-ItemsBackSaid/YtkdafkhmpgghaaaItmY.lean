/-
  Plain facts on an element that is a token, the byte = and a quoted text, and on what is joined (P6.4).
-/
import Derived.Test.YtkdafkhmpgghaaaItmV
namespace Go.Proofs.Ytkdafkhmpgghaaa

theorem pair_list (a q : ByteArray) : (a ++ (⟨#[61]⟩ : ByteArray) ++ q).data.toList = a.data.toList ++ 61 :: q.data.toList := by
  rw [append_list, append_list]; simp
theorem pair_at (a q : ByteArray) (k : Nat) (h : k < (a ++ (⟨#[61]⟩ : ByteArray) ++ q).size) : (a.data.toList ++ 61 :: q.data.toList)[k]? = some ((a ++ (⟨#[61]⟩ : ByteArray) ++ q)[k]) := by
  rw [← pair_list]; exact Lib.data_getElem? _ k h
theorem pair_size (a q : ByteArray) : (a ++ (⟨#[61]⟩ : ByteArray) ++ q).size = a.size + 1 + q.size := by
  rw [Lib.size_eq, pair_list, List.length_append, List.length_cons, ← Lib.size_eq, ← Lib.size_eq]; omega
theorem cut_pair (a q : ByteArray) (h : allB tokB a.data.toList = true) : cutA (a ++ (⟨#[61]⟩ : ByteArray) ++ q) 61 = a ∧ cutZ (a ++ (⟨#[61]⟩ : ByteArray) ++ q) 61 = q ∧ cutOk (a ++ (⟨#[61]⟩ : ByteArray) ++ q) 61 = true := by
  have hsz := pair_size a q
  have hl := Lib.size_eq a
  have hi : idxOf (a ++ (⟨#[61]⟩ : ByteArray) ++ q) 61 = a.size := by
    refine idx_first _ 61 (by omega) (by omega) a.size (by omega) ?_ ?_
    · have := pair_at a q a.size (by omega)
      rw [List.getElem?_append_right (by omega), ← hl, Nat.sub_self, List.getElem?_cons_zero, Option.some.injEq] at this
      rw [← this]; rfl
    · intro k hk e
      have h1 := pair_at a q k (by omega)
      rw [List.getElem?_append_left (by omega)] at h1
      have hm := List.mem_of_getElem? h1
      have h2 := (tok_plain _ ((List.all_eq_true.1 h) _ hm)).2.2.1
      exact h2 (byte_eq (n := 61) (by omega) (by simpa using e))
  obtain ⟨h1, h2, h3⟩ := cut_hit hi
  refine ⟨?_, ?_, h3⟩
  · rw [h1]
    have : ((a ++ (⟨#[61]⟩ : ByteArray) ++ q).extract 0 a.size).data.toList = a.data.toList := by
      rw [Lib.extract_data, pair_list, List.drop_zero, Nat.sub_zero, List.take_append_of_le_length (by omega), List.take_of_length_le (by omega)]
    rw [mkS_eq this, mkS_self]
  · rw [h2]
    have : ((a ++ (⟨#[61]⟩ : ByteArray) ++ q).extract (a.size + 1) (a ++ (⟨#[61]⟩ : ByteArray) ++ q).size).data.toList = q.data.toList := by
      rw [Lib.extract_to_end, pair_list, List.drop_append, List.drop_eq_nil_of_le (by omega)]
      rw [show a.size + 1 - a.data.toList.length = 1 by omega]; rfl
    rw [mkS_eq this, mkS_self]
theorem quote_not_tok (l : List UInt8) : isTok (mkS (quoteL l)) = false := by
  rw [isTok_list, mkS_list]
  have h : tokB 34 = false := by decide
  simp [tokL, quoteL, allB, h]
theorem unq_back (l : List UInt8) : unqO (quoteL l) = l ∧ unqE (quoteL l) = 0 := by simp [unqO, unqE, unq_quote]
theorem par_back (a s : ByteArray) (h : isTok a = true) :
    parN (a ++ (⟨#[61]⟩ : ByteArray) ++ mkS (quoteL s.data.toList)) = mkS (lowL a.data.toList) ∧ parV (a ++ (⟨#[61]⟩ : ByteArray) ++ mkS (quoteL s.data.toList)) = s ∧
      parH (a ++ (⟨#[61]⟩ : ByteArray) ++ mkS (quoteL s.data.toList)) = true ∧ parE (a ++ (⟨#[61]⟩ : ByteArray) ++ mkS (quoteL s.data.toList)) = 0 := by
  have ht := h
  unfold isTok at ht
  simp only [Bool.and_eq_true] at ht
  obtain ⟨h1, h2, h3⟩ := cut_pair a (mkS (quoteL s.data.toList)) ht.2
  have hu := unq_back s.data.toList
  have hv : valE (mkS (quoteL s.data.toList)) = 0 := by
    unfold valE
    rw [quote_not_tok, mkS_list, hu.2]; simp
  have ho : valO (mkS (quoteL s.data.toList)) = s := by
    unfold valO
    rw [quote_not_tok, mkS_list, hu.1, mkS_self]; simp
  have := par_good (s := a ++ (⟨#[61]⟩ : ByteArray) ++ mkS (quoteL s.data.toList)) (by rw [h1]; exact h) h3 (by rw [h2]; exact hv)
  rwa [h1, h2, ho] at this
theorem par_any (p : ByteArray) : parE p = 5 ∨ (parE p = 0 ∧ (parN p).toList.isEmpty = false) := by
  rcases Bool.eq_false_or_eq_true (isTok (cutA p 61)) with h | h
  · have hn : (mkS (lowL (cutA p 61).data.toList)).toList.isEmpty = false := by
      rw [mkS_empty]
      rw [isTok_list] at h
      unfold tokL at h
      simp only [Bool.and_eq_true, Bool.not_eq_true'] at h
      cases hl : (cutA p 61).data.toList with
      | nil => rw [hl] at h; exact absurd h.1 (by decide)
      | cons c r => rfl
    cases hk : cutOk p 61 with
    | false =>
      have := par_bare h hk
      exact .inr ⟨this.2.2.2, by rw [this.1]; exact hn⟩
    | true =>
      rcases valE_two (cutZ p 61) with hv | hv
      · have := par_good h hk hv
        exact .inr ⟨this.2.2.2, by rw [this.1]; exact hn⟩
      · exact .inl (par_bad h hk hv).2.2.2
  · exact .inl (par_tok h).2.2.2

end Go.Proofs.Ytkdafkhmpgghaaa
