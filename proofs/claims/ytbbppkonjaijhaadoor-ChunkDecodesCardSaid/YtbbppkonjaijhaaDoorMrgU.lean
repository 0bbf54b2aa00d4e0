/-
  Texts that the laws of this seat lean on, one behind the other.
-/
import Derived.Test.YtbbppkonjaijhaaDoorMrgI
import Derived.Lib.CutLaws
import Derived.Lib.SlTrimSet
/-
  Plain facts that the walks of package chunk lean on: the library's cut at a line's end, blanks trimmed at the end, a size under a lower bound.
-/
section
namespace Go.Proofs.YtbbppkonjaijhaaDoor
open Go.RowKit

theorem index_crlf : ∀ l : List UInt8, Lib.index l [13, 10] = (match lineL l with | some p => (p.1.length : Int) | none => -1)
  | [] => rfl
  | [c] => by simp [Lib.index, lineL, List.isPrefixOf]
  | c :: d :: r => by
    by_cases e : c = 13 ∧ d = 10
    · rw [e.1, e.2, lineL_hit]
      simp [Lib.index, List.isPrefixOf]
    · have hp : [13, 10].isPrefixOf (c :: d :: r) = false := by
        simp only [List.isPrefixOf, Bool.and_true, Bool.and_eq_false_iff, beq_eq_false_iff_ne]
        by_cases h1 : c = 13
        · exact .inr (fun h => e ⟨h1, h.symm⟩)
        · exact .inl (fun h => h1 h.symm)
      rw [Lib.index, hp, index_crlf (d :: r), lineL_step e]
      cases lineL (d :: r) with
      | none => rfl
      | some p =>
        have : ((p.1.length : Int) == -1) = false := by rw [beq_eq_false_iff_ne]; omega
        simp [this]
theorem cut_crlf {l ln r : List UInt8} (h : lineL l = some (ln, r)) : Lib.cut l [13, 10] = (ln, r, true) := by
  have e := index_crlf l
  rw [h] at e
  have e' : Lib.index l [13, 10] = (ln.length : Int) := e
  unfold Lib.cut
  rw [e', if_pos (by omega), show ((ln.length : Int)).toNat = ln.length by omega, lineL_form h]
  simp
theorem cut_none {l : List UInt8} (h : lineL l = none) : Lib.cut l [13, 10] = (l, [], false) := by
  have e := index_crlf l
  rw [h] at e
  have e' : Lib.index l [13, 10] = -1 := e
  unfold Lib.cut
  rw [e', if_neg (by omega)]
theorem blk_set (c : UInt8) : ([32, 9] : List UInt8).contains c = blkU c := by
  have h : ∀ n : Nat, n < 256 → ([32, 9] : List UInt8).contains (UInt8.ofNat n) = blkB (n : Int) := by decide +kernel
  have := h c.toNat c.toNat_lt
  rwa [UInt8.ofNat_toNat] at this
theorem trim_blk (l : List UInt8) : Lib.trimRightS l [32, 9] = rdw l := by
  unfold Lib.trimRightS rdw
  congr 2
  funext c
  exact blk_set c
theorem cut_text (s : ByteArray) (c : Int) : (!cutOk s c || allB txtB (cutZ s c).data.toList) = allB txtB (cutZ s c).data.toList := by
  unfold cutOk cutZ
  by_cases h : idxOf s c = -1
  · rw [h]; rfl
  · rw [if_neg h]
    have : (idxOf s c == -1) = false := by rw [beq_eq_false_iff_ne]; exact h
    rw [this]; rfl

/-- A size under a lower bound. -/
theorem num_under (M : Int) (l : List UInt8) :
    (numE 16 15 1152921504606846976 l ≠ 0 ∧ numE 16 15 M l = 5 ∧ numN 16 15 M l = 0) ∨
    (numE 16 15 1152921504606846976 l = 0 ∧ M < numN 16 15 1152921504606846976 l ∧ numE 16 15 M l = 3 ∧ numN 16 15 M l = 0) ∨
    (numE 16 15 1152921504606846976 l = 0 ∧ numN 16 15 1152921504606846976 l ≤ M ∧ numE 16 15 M l = 0 ∧ numN 16 15 M l = numN 16 15 1152921504606846976 l) := by
  unfold numE numN
  by_cases h : l.length = 0 ∨ 15 < l.length ∨ allB (isD 16) l = false
  · left
    refine ⟨by rw [if_pos h]; decide, by rw [if_pos h], by rw [if_pos]; exact h.imp_right (fun x => x.imp_right .inl)⟩
  · right
    have h1 : ¬ l.length = 0 := fun e => h (.inl e)
    have h2 : ¬ 15 < l.length := fun e => h (.inr (.inl e))
    have h3 : ¬ allB (isD 16) l = false := fun e => h (.inr (.inr e))
    have hlt := valV_lt 16 l (by decide) (by simpa using h3)
    have hpow : 16 ^ l.length ≤ 16 ^ 15 := Nat.pow_le_pow_right (by decide) (by omega)
    have hT : ¬ (1152921504606846976 : Int) < valV 16 l := by
      have hlt' : valV 16 l < ((16 ^ l.length : Nat) : Int) := hlt
      have : ((16 ^ l.length : Nat) : Int) ≤ 1152921504606846976 := by
        have : ((16 ^ 15 : Nat) : Int) = 1152921504606846976 := by decide
        rw [← this]
        exact Int.ofNat_le.2 hpow
      omega
    rw [if_neg h, if_neg hT]
    have e1 : ¬ (l.length = 0 ∨ 15 < l.length ∨ allB (isD 16) l = false ∨ 1152921504606846976 < valV 16 l) := by
      rintro (e | e | e | e)
      · exact h1 e
      · exact h2 e
      · exact h3 e
      · exact hT e
    rw [if_neg e1]
    by_cases g : M < valV 16 l
    · left
      exact ⟨rfl, g, by rw [if_neg h, if_pos g], by rw [if_pos (.inr (.inr (.inr g)))]⟩
    · right
      refine ⟨rfl, by omega, by rw [if_neg h, if_neg g], ?_⟩
      rw [if_neg]
      rintro (e | e | e | e)
      · exact h1 e
      · exact h2 e
      · exact h3 e
      · exact g e

/-- What the reader says of a line when the body has b bytes: the size, the code. -/
def szQ (b : Nat) (s : ByteArray) : Int × Int := if szB s = false then (0, 25) else if 65536 - (b : Int) < szV s then (0, 4) else (szV s, 0)
theorem szQ_bad {b : Nat} {s : ByteArray} (h : szB s = false) : szQ b s = (0, 25) := by simp [szQ, h]
theorem szQ_big {b : Nat} {s : ByteArray} (h : szB s = true) (g : 65536 - (b : Int) < szV s) : szQ b s = (0, 4) := by simp [szQ, h, g]
theorem szQ_ok {b : Nat} {s : ByteArray} (h : szB s = true) (g : ¬ 65536 - (b : Int) < szV s) : szQ b s = (szV s, 0) := by simp [szQ, h, g]

end Go.Proofs.YtbbppkonjaijhaaDoor
end

/-
  Plain facts of one round of the chunks' reader: a line and what stands behind it.
-/
section
namespace Go.Proofs.YtbbppkonjaijhaaDoor
open Go.RowKit

/-- What the chunks come to when the last one's line has been read. -/
def lastD (X : List UInt8) (t : List UInt8) : Int × List UInt8 × List UInt8 := ((trl (t.length + 1) 0 t).1, (if (trl (t.length + 1) 0 t).1 = 0 then X else []), (trl (t.length + 1) 0 t).2)

theorem trl_le : ∀ (m k : Nat) (l : List UInt8), (trl m k l).2.length ≤ l.length
  | 0, _, _ => Nat.le_refl _
  | m + 1, k, l => by
    rw [trl]
    cases hl : lineL l with
    | none => exact Nat.le_refl _
    | some p =>
      obtain ⟨ln, r⟩ := p
      have hr : r.length ≤ l.length := by
        have := congrArg List.length (lineL_form hl)
        rw [List.length_append, List.length_cons, List.length_cons] at this
        omega
      simp only []
      split
      · exact hr
      · split
        · exact Nat.le_refl _
        · split
          · exact Nat.le_refl _
          · exact Nat.le_trans (trl_le m _ r) hr

theorem end_ok {r : List UInt8} {n : Nat} (h : ¬ (r.length < n + 2 ∨ r[n]? ≠ some 13 ∨ r[n + 1]? ≠ some 10)) : n ≤ r.length ∧ lineL (r.drop n) = some ([], r.drop (n + 2)) := by
  have h1 : n + 2 ≤ r.length := by
    rcases Nat.lt_or_ge r.length (n + 2) with g | g
    · exact absurd (.inl g) h
    · exact g
  have h2 : r[n]? = some 13 := Classical.byContradiction fun g => h (.inr (.inl g))
  have h3 : r[n + 1]? = some 10 := Classical.byContradiction fun g => h (.inr (.inr g))
  refine ⟨by omega, ?_⟩
  rw [List.getElem?_eq_getElem (by omega), Option.some.injEq] at h2 h3
  rw [List.drop_eq_getElem_cons (by omega), List.drop_eq_getElem_cons (i := n + 1) (by omega), h2, h3]
  exact lineL_hit _
theorem end_bad {r : List UInt8} {n : Nat} (h : r.length < n + 2 ∨ r[n]? ≠ some 13 ∨ r[n + 1]? ≠ some 10) : r.length < n ∨ n ≤ r.length ∧ (lineL (r.drop n) = none ∨ ∃ ln t, lineL (r.drop n) = some (ln, t) ∧ ln ≠ []) := by
  rcases Nat.lt_or_ge r.length n with g | g
  · exact .inl g
  · refine .inr ⟨g, ?_⟩
    cases hl : lineL (r.drop n) with
    | none => exact .inl rfl
    | some p =>
      obtain ⟨ln, t⟩ := p
      refine .inr ⟨ln, t, rfl, ?_⟩
      rintro rfl
      have hf := lineL_form hl
      have h0 : r[n]? = some 13 := by
        have := congrArg (fun x : List UInt8 => x[0]?) hf
        simpa using this
      have h1 : r[n + 1]? = some 10 := by
        have := congrArg (fun x : List UInt8 => x[1]?) hf
        simpa using this
      have hlen := congrArg List.length hf
      rw [List.length_drop, List.nil_append, List.length_cons, List.length_cons] at hlen
      rcases h with h | h | h
      · omega
      · exact h h0
      · exact h h1

/-- One round: what the line says, and what the chunks come to. -/
theorem round_cases {l ln r X : List UInt8} (F : Nat) (hl : lineL l = some (ln, r)) (hX : X.length ≤ 65536) :
    (∃ c, szQ X.length (mkS ln) = (0, c) ∧ c ≠ 0 ∧ dcd (F + 1) X l = (c, [], l)) ∨
    (szQ X.length (mkS ln) = (0, 0) ∧ dcd (F + 1) X l = lastD X r) ∨
    (∃ n : Nat, szQ X.length (mkS ln) = ((n : Int), 0) ∧ 0 < n ∧ n + X.length ≤ 65536 ∧ (r.length < n ∨ n ≤ r.length ∧ (lineL (r.drop n) = none ∨ ∃ ln t, lineL (r.drop n) = some (ln, t) ∧ ln ≠ [])) ∧ dcd (F + 1) X l = (25, [], l)) ∨
    (∃ n : Nat, szQ X.length (mkS ln) = ((n : Int), 0) ∧ 0 < n ∧ n + X.length ≤ 65536 ∧ n ≤ r.length ∧ lineL (r.drop n) = some ([], r.drop (n + 2)) ∧ dcd (F + 1) X l = dcd F (X ++ r.take n) (r.drop (n + 2))) := by
  have hd : dcd (F + 1) X l = if szE (mkS ln) ≠ 0 then (szE (mkS ln), [], l) else if szN (mkS ln) = 0 then lastD X r
      else if 65536 < (X.length : Int) + szN (mkS ln) then (4, [], l)
      else if r.length < (szN (mkS ln)).toNat + 2 ∨ r[(szN (mkS ln)).toNat]? ≠ some 13 ∨ r[(szN (mkS ln)).toNat + 1]? ≠ some 10 then (25, [], l)
      else dcd F (X ++ r.take (szN (mkS ln)).toNat) (r.drop ((szN (mkS ln)).toNat + 2)) := by rw [dcd, hl]; rfl
  rw [hd]
  generalize mkS ln = LN at *
  clear hd hl
  have hv := szV_nn LN
  cases hb : szB LN with
  | false =>
    obtain ⟨e1, _⟩ := sz_bad hb
    exact .inl ⟨25, szQ_bad hb, by decide, by rw [e1, if_pos (by decide)]⟩
  | true =>
    by_cases g : 65536 - (X.length : Int) < szV LN
    · refine .inl ⟨4, szQ_big hb g, by decide, ?_⟩
      by_cases k : 65536 < szV LN
      · obtain ⟨e1, _⟩ := sz_big hb k
        rw [e1, if_pos (by decide)]
      · obtain ⟨e1, e2⟩ := sz_fine hb k
        rw [e1, e2, if_neg (by decide), if_neg (by omega), if_pos (by omega)]
    · obtain ⟨e1, e2⟩ := sz_fine hb (by omega)
      have eq := szQ_ok hb g
      rw [e1, e2, if_neg (by decide), eq]
      by_cases k : szV LN = 0
      · rw [if_pos k, k]
        exact .inr (.inl ⟨rfl, rfl⟩)
      · obtain ⟨n, hn⟩ : ∃ n : Nat, szV LN = n := ⟨(szV LN).toNat, by omega⟩
        rw [if_neg k, if_neg (by omega), hn, show ((n : Int)).toNat = n by omega]
        rw [hn] at g k
        by_cases b : r.length < n + 2 ∨ r[n]? ≠ some 13 ∨ r[n + 1]? ≠ some 10
        · rw [if_pos b]
          exact .inr (.inr (.inl ⟨n, rfl, by omega, by omega, end_bad b, rfl⟩))
        · rw [if_neg b]
          obtain ⟨b1, b2⟩ := end_ok b
          exact .inr (.inr (.inr ⟨n, rfl, by omega, by omega, b1, b2, rfl⟩))

end Go.Proofs.YtbbppkonjaijhaaDoor
end
