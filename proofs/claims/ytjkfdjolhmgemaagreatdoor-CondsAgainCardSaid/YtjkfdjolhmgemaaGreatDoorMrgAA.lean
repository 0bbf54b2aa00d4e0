/-
  Texts that the laws of this seat lean on, one behind the other.
-/
import Derived.Test.YtjkfdjolhmgemaaGreatDoorMrgZ
import Derived.Lib.Strings
set_option linter.unusedSimpArgs false
set_option linter.unusedVariables false
/-
  Plain facts that the walks of package etag lean on: a tag's text between the library's CutPrefix and CutSuffix, and a list's elements one by one.
-/
section
namespace Go.Proofs.YtjkfdjolhmgemaaGreatDoor
open Go.RowKit

/-- What stands between the quotes. -/
def unB (s : ByteArray) : Bool := frmB s && allB innB (midL s).data.toList
def unO (s : ByteArray) : ByteArray := if unB s then midL s else ⟨#[]⟩
theorem tgB_un (s : ByteArray) : tgB s = unB (offW s) := rfl
theorem un_no {s : ByteArray} (h : unB s = false) : unO s = ⟨#[]⟩ := by unfold unO; rw [h]; rfl
theorem un_yes {s : ByteArray} (h : unB s = true) : unO s = midL s := by unfold unO; rw [h]; rfl
theorem tgO_yes {s : ByteArray} (h : unB (offW s) = true) : tgO s = (wkB s, unO (offW s)) := by unfold tgO; rw [tgB_un, h, un_yes h]; rfl
theorem tgO_no {s : ByteArray} (h : unB (offW s) = false) : tgO s = (false, ⟨#[]⟩) := by unfold tgO; rw [tgB_un, h]; rfl

theorem wk_list : (⟨#[87, 47]⟩ : ByteArray).data.toList = [87, 47] := rfl
theorem qt_list : (⟨#[34]⟩ : ByteArray).data.toList = [34] := rfl
theorem pre_wk (s : ByteArray) : Lib.hasPrefix s.data.toList (⟨#[87, 47]⟩ : ByteArray).data.toList = wkB s := by
  rw [← Lib.hasPrefix_raw, Lib.toList_data ⟨#[87, 47]⟩, wk_list]; rfl
theorem pre_off (s : ByteArray) : mkS (Lib.trimPrefix s.data.toList (⟨#[87, 47]⟩ : ByteArray).data.toList) = offW s := by
  unfold offW
  rw [← pre_wk]
  unfold Lib.trimPrefix
  split
  · rw [piece_ext, piece_all]; rfl
  · exact mkS_self s
/-- A text that a quote opens, and one that a quote closes. -/
def opB (s : ByteArray) : Bool := Lib.hasPrefix s.data.toList (⟨#[34]⟩ : ByteArray).data.toList
def opR (s : ByteArray) : ByteArray := mkS (Lib.trimPrefix s.data.toList (⟨#[34]⟩ : ByteArray).data.toList)
def clB (s : ByteArray) : Bool := Lib.hasSuffix s.data.toList (⟨#[34]⟩ : ByteArray).data.toList
def clR (s : ByteArray) : ByteArray := mkS (Lib.trimSuffix s.data.toList (⟨#[34]⟩ : ByteArray).data.toList)
theorem op_iff (s : ByteArray) : opB s = true ↔ ∃ r, s.data.toList = 34 :: r := by
  unfold opB Lib.hasPrefix
  rw [qt_list]
  cases s.data.toList with
  | nil => simp [List.isPrefixOf]
  | cons c r => simp only [List.isPrefixOf, Bool.and_true, beq_iff_eq, List.cons.injEq]; exact ⟨fun h => ⟨r, h.symm, rfl⟩, fun ⟨_, h, _⟩ => h.symm⟩
theorem cl_iff (s : ByteArray) : clB s = true ↔ ∃ r, s.data.toList = r ++ [34] := by
  unfold clB Lib.hasSuffix
  rw [qt_list, List.isSuffixOf_iff_suffix]
  exact ⟨fun ⟨r, h⟩ => ⟨r, h.symm⟩, fun ⟨r, h⟩ => ⟨r, h.symm⟩⟩
theorem op_yes {s : ByteArray} {r : List UInt8} (h : s.data.toList = 34 :: r) : opR s = mkS r := by
  have ho : Lib.hasPrefix s.data.toList (⟨#[34]⟩ : ByteArray).data.toList = true := (op_iff s).2 ⟨r, h⟩
  unfold opR Lib.trimPrefix
  rw [if_pos ho, h]; rfl
theorem cl_yes {s : ByteArray} {r : List UInt8} (h : s.data.toList = r ++ [34]) : clR s = mkS r := by
  have ho : Lib.hasSuffix s.data.toList (⟨#[34]⟩ : ByteArray).data.toList = true := (cl_iff s).2 ⟨r, h⟩
  unfold clR Lib.trimSuffix
  rw [if_pos ho, h, qt_list]; simp
theorem frm_list {s : ByteArray} : frmB s = true ↔ ∃ r, s.data.toList = 34 :: (r ++ [34]) := by
  unfold frmB
  constructor
  · intro hf
    split at hf
    · rename_i h2
      rw [Bool.and_eq_true, beq_iff_eq, beq_iff_eq] at hf
      obtain ⟨m, hm⟩ : ∃ m, s.size = m + 2 := ⟨s.size - 2, by omega⟩
      have e0 : s[0] = 34 := UInt8.toNat_inj.1 hf.1
      have e1 : s[m + 1] = 34 := by
        have : s[s.size - 1] = 34 := UInt8.toNat_inj.1 hf.2
        have e : s.size - 1 = m + 1 := by omega
        simp only [e] at this
        exact this
      have p1 := piece_snoc s 1 (m + 1) (by omega) (by omega)
      rw [show m + 1 + 1 = s.size by omega, piece_all, e1] at p1
      have d0 := drop_at s 0 (by omega)
      rw [List.drop_zero, e0] at d0
      exact ⟨_, by rw [d0, p1]⟩
    · cases hf
  · rintro ⟨r, h⟩
    have hz : s.size = r.length + 2 := by rw [Lib.size_eq, h]; simp
    have h2 : 2 ≤ s.size := by omega
    rw [dif_pos h2]
    obtain rfl := mkS_eq h
    have e : (mkS (34 :: (r ++ [34]))).size - 1 = r.length + 1 := by omega
    have hl : (mkS (34 :: (r ++ [34])))[r.length + 1]'(by omega) = 34 := by
      show (34 :: (r ++ [34])).toArray[r.length + 1]'(by simp) = 34
      simp
    simp only [e]
    rw [hl]
    rfl
theorem mid_list {s : ByteArray} {r : List UInt8} (h : s.data.toList = 34 :: (r ++ [34])) : midL s = mkS r := by
  have hz : s.size = r.length + 2 := by rw [Lib.size_eq, h]; simp
  unfold midL
  rw [piece_ext]
  unfold piece
  rw [hz, h, show r.length + 2 - 1 = r.length + 1 by omega]
  simp
theorem un_op {s : ByteArray} (h : opB s = false) : unB s = false := by
  cases hf : frmB s with
  | false => unfold unB; rw [hf]; rfl
  | true =>
    obtain ⟨r, e⟩ := frm_list.1 hf
    rw [(op_iff s).2 ⟨_, e⟩] at h; cases h
theorem un_cl {s : ByteArray} (h : clB (opR s) = false) : unB s = false := by
  cases hf : frmB s with
  | false => unfold unB; rw [hf]; rfl
  | true =>
    obtain ⟨r, e⟩ := frm_list.1 hf
    rw [op_yes e, (cl_iff _).2 ⟨r, rfl⟩] at h; cases h
theorem un_both {s : ByteArray} (ho : opB s = true) (h : clB (opR s) = true) : unB s = allB innB (clR (opR s)).data.toList ∧ midL s = clR (opR s) := by
  obtain ⟨r, e⟩ := (op_iff s).1 ho
  rw [op_yes e] at h ⊢
  obtain ⟨q, f⟩ := (cl_iff _).1 h
  rw [cl_yes f]
  rw [mkS_list] at f
  rw [f] at e
  have hm := mid_list e
  refine ⟨?_, hm⟩
  unfold unB
  rw [frm_list.2 ⟨q, e⟩, hm]; rfl
theorem clR_le (s : ByteArray) : (clR s).size ≤ s.size := by unfold clR; rw [mkS_size, Lib.size_eq]; exact Lib.trimSuffix_le _ _
theorem opR_le (s : ByteArray) : (opR s).size ≤ s.size := by unfold opR; rw [mkS_size, Lib.size_eq]; exact Lib.trimPrefix_le _ _

/-- P14.3: a list's first element, and what stands behind the comma that ends it. -/
def cuL (q : Bool) (p : List UInt8) : List UInt8 → List UInt8 × Option (List UInt8)
  | [] => (p, none)
  | c :: r => if c = 34 then cuL (!q) (p ++ [c]) r else if c = 44 ∧ q = false then (p, some r) else cuL q (p ++ [c]) r
theorem lsR_cu : ∀ (l : List UInt8) (q : Bool) (p : List UInt8) (X : List Tg), lsR q p X l = (match (cuL q p l).2 with
    | none => addT (cuL q p l).1 X
    | some r => match addT (cuL q p l).1 X with
      | none => none
      | some o => lsR false [] o r)
  | [], q, p, X => rfl
  | c :: r, q, p, X => by
    by_cases h1 : c = 34
    · subst h1
      have hc : cuL q p (34 :: r) = cuL (!q) (p ++ [34]) r := by simp [cuL]
      have hl : lsR q p X (34 :: r) = lsR (!q) (p ++ [34]) X r := by simp [lsR]
      rw [hc, hl]
      exact lsR_cu r _ _ _
    · by_cases h2 : c = 44 ∧ q = false
      · obtain ⟨rfl, rfl⟩ := h2
        have hc : cuL false p (44 :: r) = (p, some r) := by simp [cuL]
        rw [hc]
        simp [lsR]
        cases addT p X <;> rfl
      · have hc : cuL q p (c :: r) = cuL q (p ++ [c]) r := by
          unfold cuL
          rw [if_neg h1, if_neg h2]
          cases r <;> rfl
        have h3 : c ≠ 44 ∨ q = true := by
          by_cases e : c = 44
          · right
            cases q with
            | true => rfl
            | false => exact absurd ⟨e, rfl⟩ h2
          · exact .inl e
        have hl : lsR q p X (c :: r) = lsR q (p ++ [c]) X r := by
          show (if c ≠ 44 ∨ q = true then _ else _) = _
          rw [if_pos h3, if_neg h1]
        rw [hc, hl]
        exact lsR_cu r _ _ _
/-- Where a list's first element ends. -/
def nxE (s : ByteArray) : ByteArray := mkS (trimL (cuL false [] s.data.toList).1)
def nxR (s : ByteArray) : ByteArray := mkS ((cuL false [] s.data.toList).2.getD [])
def nxM (s : ByteArray) : Bool := (cuL false [] s.data.toList).2.isSome
theorem cuL_sz : ∀ (l : List UInt8) (q : Bool) (p : List UInt8), (cuL q p l).1.length ≤ p.length + l.length ∧ (∀ r, (cuL q p l).2 = some r → r.length + 1 ≤ l.length)
  | [], q, p => ⟨Nat.le_refl _, fun r h => by cases h⟩
  | c :: r, q, p => by
    unfold cuL
    split
    · have ih := cuL_sz r (!q) (p ++ [c])
      refine ⟨by have := ih.1; simp at this ⊢; omega, fun t ht => ?_⟩
      have := ih.2 t ht
      simp only [List.length_cons]; omega
    · split
      · refine ⟨by simp, fun t ht => ?_⟩
        cases ht
        simp
      · have ih := cuL_sz r q (p ++ [c])
        refine ⟨by have := ih.1; simp at this ⊢; omega, fun t ht => ?_⟩
        have := ih.2 t ht
        simp only [List.length_cons]; omega
theorem nxE_le (s : ByteArray) : (nxE s).size ≤ s.size := by
  unfold nxE
  rw [mkS_size, Lib.size_eq]
  have h1 := etrim_le (cuL false [] s.data.toList).1
  have h2 := (cuL_sz s.data.toList false []).1
  simp only [List.length_nil] at h2
  omega
theorem nxR_lt {s : ByteArray} (h : nxM s = true) : (nxR s).size + 1 ≤ s.size := by
  unfold nxM at h
  rw [Option.isSome_iff_exists] at h
  obtain ⟨r, hr⟩ := h
  unfold nxR
  rw [mkS_size, hr, Lib.size_eq]
  exact (cuL_sz s.data.toList false []).2 r hr
theorem nxR_le (s : ByteArray) : (nxR s).size ≤ s.size := by
  cases h : nxM s with
  | true => have := nxR_lt h; omega
  | false =>
    unfold nxM at h
    rw [Option.isSome_eq_false_iff, Option.isNone_iff_eq_none] at h
    unfold nxR
    rw [h]; exact Nat.zero_le _
/-- How the list stands for what is left of it. -/
def lsN (more : Bool) (X : List Tg) (s : ByteArray) : Option (List Tg) := if more then lsR false [] X s.data.toList else some X
theorem lsN_more (s : ByteArray) (X : List Tg) : lsN true X s = match addT (cuL false [] s.data.toList).1 X with
    | none => none
    | some o => lsN (nxM s) o (nxR s) := by
  show lsR false [] X s.data.toList = _
  rw [lsR_cu]
  unfold lsN nxM nxR
  cases h : (cuL false [] s.data.toList).2 with
  | none =>
    simp only [Option.isSome_none, Bool.false_eq_true, if_false]
    cases addT (cuL false [] s.data.toList).1 X <;> rfl
  | some r =>
    simp only [Option.isSome_some, if_true, Option.getD_some, mkS_list]
theorem nxE_nil {s : ByteArray} (h : (nxE s).toList.isEmpty = true) : trimL (cuL false [] s.data.toList).1 = [] := by
  unfold nxE at h
  rw [lmk_empty] at h
  simpa using h
theorem tgB_nil : tgB ⟨#[]⟩ = false := by
  have h1 : wkB ⟨#[]⟩ = false := rfl
  have h2 : offW ⟨#[]⟩ = ⟨#[]⟩ := by unfold offW; rw [h1]; rfl
  rw [tgB_un, h2]
  rfl
theorem nx_keep {s : ByteArray} (X : List Tg) (h : (nxE s).toList.isEmpty = true) : lsN true X s = lsN (nxM s) X (nxR s) := by
  rw [lsN_more, add_keep (nxE_nil h)]
theorem nx_tag {s : ByteArray} (X : List Tg) (h : tgB (nxE s) = true) : lsN true X s = lsN (nxM s) (X ++ [tgO (nxE s)]) (nxR s) := by
  have hT : trimL (cuL false [] s.data.toList).1 ≠ [] := fun e => by
    have : nxE s = ⟨#[]⟩ := by unfold nxE; rw [e]; rfl
    rw [this, tgB_nil] at h; cases h
  rw [lsN_more, add_more rfl hT h]; rfl
theorem nx_bad {s : ByteArray} (X : List Tg) (he : (nxE s).toList.isEmpty = false) (h : tgB (nxE s) = false) : lsN true X s = none := by
  have hT : trimL (cuL false [] s.data.toList).1 ≠ [] := fun e => by
    unfold nxE at he
    rw [lmk_empty, e] at he; cases he
  rw [lsN_more, add_bad rfl hT h]

/-- The byte at k, as a text. -/
theorem one_is (s : ByteArray) (k : Nat) (h : k < s.size) (b : UInt8) : ((s.extract k (k + 1)).toList == [b]) = (s[k] == b) := by
  rw [Lib.toList_data, piece_ext, mkS_list, piece_snoc s k k (Nat.le_refl _) h, piece_none, List.nil_append]
  show (s[k] == b && true) = _
  rw [Bool.and_true]
def cuS (q : Bool) (s : ByteArray) (k : Nat) : List UInt8 × Option (List UInt8) := cuL q (s.data.toList.take k) (s.data.toList.drop k)
theorem cuS_quote {s : ByteArray} {k : Nat} {q : Bool} (h : k < s.size) (hc : s[k] = 34) : cuS q s k = cuS (!q) s (k + 1) := by
  unfold cuS
  rw [drop_at s k h, take_snoc s k h, hc]
  simp [cuL]
theorem cuS_other {s : ByteArray} {k : Nat} {q : Bool} (h : k < s.size) (hc : s[k] ≠ 34) (h2 : s[k] ≠ 44 ∨ q = true) : cuS q s k = cuS q s (k + 1) := by
  unfold cuS
  rw [drop_at s k h, take_snoc s k h]
  rw [cuL, if_neg hc, if_neg (fun e => by rcases h2 with h2 | h2; exact h2 e.1; rw [h2] at e; exact absurd e.2 (by simp))]
theorem cuS_comma {s : ByteArray} {k : Nat} (h : k < s.size) (hc : s[k] = 44) : cuS false s k = (s.data.toList.take k, some (s.data.toList.drop (k + 1))) := by
  unfold cuS
  rw [drop_at s k h, hc]
  simp [cuL]
theorem cuS_end {s : ByteArray} {k : Nat} {q : Bool} (h : s.size ≤ k) : cuS q s k = (s.data.toList, none) := by
  unfold cuS
  rw [List.drop_eq_nil_of_le (by rw [← Lib.size_eq]; omega), List.take_of_length_le (by rw [← Lib.size_eq]; omega)]
  rfl

end Go.Proofs.YtjkfdjolhmgemaaGreatDoor
end

/-
  Plain facts of layer 14: a tag comes back from its text, alone and in lists.
-/
section
namespace Go.Proofs.YtjkfdjolhmgemaaGreatDoor
open Go.RowKit

theorem inn_q {c : UInt8} (h : innB (c.toNat : Int) = true) : c ≠ 34 := fun e => by
  subst e
  exact absurd h (by decide)
/-- What the text of a tag is. -/
theorem tg_form {s : ByteArray} (h : tgB s = true) : s.data.toList = (if wkB s then [87, 47] else []) ++ 34 :: (midL (offW s)).data.toList ++ [34] ∧ (∀ c ∈ (midL (offW s)).data.toList, c ≠ 34) := by
  unfold tgB at h
  rw [Bool.and_eq_true] at h
  obtain ⟨hf, hi⟩ := h
  refine ⟨?_, fun c hc => ?_⟩
  · have hr : (offW s).data.toList = 34 :: (midL (offW s)).data.toList ++ [34] := by
      generalize offW s = r at *
      unfold frmB at hf
      split at hf
      · rename_i h2
        rw [Bool.and_eq_true, beq_iff_eq, beq_iff_eq] at hf
        obtain ⟨m, hm⟩ : ∃ m, r.size = m + 2 := ⟨r.size - 2, by omega⟩
        have e0 : r[0] = 34 := UInt8.toNat_inj.1 hf.1
        have e1 : r[m + 1] = 34 := by
          have : r[r.size - 1] = 34 := UInt8.toNat_inj.1 hf.2
          have e : r.size - 1 = m + 1 := by omega
          simp only [e] at this
          exact this
        have p1 := piece_snoc r 1 (m + 1) (by omega) (by omega)
        rw [show m + 1 + 1 = r.size by omega, piece_all, e1] at p1
        have d0 := drop_at r 0 (by omega)
        rw [List.drop_zero, e0] at d0
        unfold midL
        rw [piece_ext, mkS_list, show r.size - 1 = m + 1 by omega, d0, p1]
        rfl
      · cases hf
    by_cases hw : wkB s = true
    · have ho : offW s = s.extract 2 s.size := by unfold offW; rw [if_pos hw]
      have hw2 := hw
      unfold wkB at hw2
      rw [Bool.and_eq_true, decide_eq_true_eq, beq_iff_eq] at hw2
      have e2 : s.data.toList.take 2 = [87, 47] := by
        have := hw2.2
        rw [Lib.toList_data, piece_ext, mkS_list] at this
        unfold piece at this
        exact this
      have e3 : s.data.toList.drop 2 = (offW s).data.toList := by rw [ho, piece_ext, mkS_list, piece_all]
      rw [if_pos hw, ← List.take_append_drop 2 s.data.toList, e2, e3, hr]
      simp
    · have ho : offW s = s := by unfold offW; rw [if_neg hw]
      rw [if_neg hw, ho]
      rw [ho] at hr
      exact hr
  · unfold allB at hi
    rw [List.all_eq_true] at hi
    exact inn_q (hi c hc)
theorem tg_text {s : ByteArray} (h : tgB s = true) : tgS (tgO s) = s := by
  have hl := (tg_form h).1
  have ho : tgO s = (wkB s, midL (offW s)) := by unfold tgO; rw [if_pos h]
  rw [ho]
  have : (tgS (wkB s, midL (offW s))).data.toList = s.data.toList := by
    rw [hl]
    unfold tgS
    rw [append_list, append_list]
    cases wkB s <;> simp
  rw [mkS_eq this, mkS_self]
theorem wek_refl (a : Tg) : wekB a a = true := by simp [wekB]
/-! ### In a list -/
theorem lsR_in : ∀ (y : List UInt8) (p : List UInt8) (X : List Tg) (r : List UInt8), (∀ c ∈ y, c ≠ 34) → lsR true p X (y ++ r) = lsR true (p ++ y) X r
  | [], p, X, r, _ => by simp
  | c :: y, p, X, r, h => by
    rw [List.cons_append]
    show (if c ≠ 44 ∨ true = true then lsR (if c = 34 then !true else true) (p ++ [c]) X (y ++ r) else _) = _
    rw [if_pos (.inr rfl), if_neg (h c (List.mem_cons_self ..)), lsR_in y _ X r (fun d hd => h d (List.mem_cons_of_mem _ hd))]
    simp
theorem lsR_out (c : UInt8) (p : List UInt8) (X : List Tg) (r : List UInt8) (h : c ≠ 44) (h2 : c ≠ 34) : lsR false p X (c :: r) = lsR false (p ++ [c]) X r := by
  show (if c ≠ 44 ∨ false = true then lsR (if c = 34 then !false else false) (p ++ [c]) X r else _) = _
  rw [if_pos (.inl h), if_neg h2]
theorem lsR_quote (q : Bool) (p : List UInt8) (X : List Tg) (r : List UInt8) : lsR q p X (34 :: r) = lsR (!q) (p ++ [34]) X r := by
  show (if (34 : UInt8) ≠ 44 ∨ q = true then lsR (if (34 : UInt8) = 34 then !q else q) (p ++ [34]) X r else _) = _
  rw [if_pos (.inl (by decide)), if_pos rfl]
theorem lsR_tag {x : List UInt8} (h : tgB (mkS x) = true) (p : List UInt8) (X : List Tg) (r : List UInt8) : lsR false p X (x ++ r) = lsR false (p ++ x) X r := by
  obtain ⟨hl, hi⟩ := tg_form h
  rw [mkS_list] at hl
  generalize (midL (offW (mkS x))).data.toList = y at *
  have key : ∀ p, lsR false p X ((34 :: y ++ [34]) ++ r) = lsR false (p ++ (34 :: y ++ [34])) X r := fun p => by
    rw [List.append_assoc, List.cons_append, lsR_quote]
    show lsR true (p ++ [34]) X (y ++ ([34] ++ r)) = _
    rw [lsR_in y _ X _ hi]
    show lsR true _ X (34 :: r) = _
    rw [lsR_quote]
    simp
  rw [hl]
  cases wkB (mkS x)
  · simpa using key p
  · have h1 : (if true = true then ([87, 47] : List UInt8) else []) ++ 34 :: y ++ [34] = 87 :: 47 :: (34 :: y ++ [34]) := by simp
    rw [h1, List.cons_append, List.cons_append, lsR_out 87 _ _ _ (by decide) (by decide), lsR_out 47 _ _ _ (by decide) (by decide), key]
    simp
/-- A tag's text begins and ends with no blank. -/
theorem tg_ends {x : List UInt8} (h : tgB (mkS x) = true) : (∃ a l, x = a :: l ∧ blkU a = false) ∧ (∃ l, x = l ++ [34]) ∧ 2 ≤ x.length := by
  obtain ⟨hl, _⟩ := tg_form h
  rw [mkS_list] at hl
  generalize (midL (offW (mkS x))).data.toList = y at *
  cases hw : wkB (mkS x)
  · rw [hw] at hl
    have hl : x = 34 :: y ++ [34] := by simpa using hl
    exact ⟨⟨34, y ++ [34], by rw [hl]; simp, by decide⟩, ⟨34 :: y, hl⟩, by rw [hl]; simp⟩
  · rw [hw] at hl
    have hl : x = [87, 47] ++ (34 :: y) ++ [34] := by simpa using hl
    exact ⟨⟨87, 47 :: 34 :: y ++ [34], by rw [hl]; simp, by decide⟩, ⟨_, hl⟩, by rw [hl]; simp⟩
theorem rdw_tag {x : List UInt8} (h : tgB (mkS x) = true) : rdw x = x := by
  obtain ⟨_, ⟨l, hl⟩, _⟩ := tg_ends h
  rw [hl]
  exact rdw_snoc_no l 34 (by decide)
theorem trim_tag {x : List UInt8} (h : tgB (mkS x) = true) : trimL x = x := by
  obtain ⟨⟨a, l, e, ha⟩, _, _⟩ := tg_ends h
  unfold trimL
  have : x.dropWhile blkU = x := by rw [e, List.dropWhile_cons_of_neg (by rw [ha]; decide)]
  rw [this, rdw_tag h]
theorem add_tag {x p : List UInt8} (h : tgB (mkS x) = true) (hp : trimL p = x) (X : List Tg) : addT p X = some (X ++ [tgO (mkS x)]) :=
  add_more hp (by obtain ⟨⟨a, l, e, _⟩, _⟩ := tg_ends h; rw [e]; simp) h
theorem ls_one {s : ByteArray} (h : tgB s = true) : lsA s = false ∧ lsL s = [tgO s] := by
  have h2 : tgB (mkS s.data.toList) = true := by rw [mkS_self]; exact h
  have ha : lsA s = false := by
    unfold lsA
    rw [trim_tag h2, mkS_self, Lib.toList_data, beq_eq_false_iff_ne]
    intro e
    have := (tg_ends h2).2.2
    rw [e] at this
    exact absurd this (by decide)
  refine ⟨ha, ?_⟩
  unfold lsL
  rw [ha]
  show lsP s = _
  unfold lsP
  have := lsR_tag h2 [] [] []
  rw [List.append_nil, List.nil_append] at this
  rw [this]
  show (addT s.data.toList []).getD [] = _
  rw [add_tag h2 (trim_tag h2), mkS_self]
  rfl
theorem match_self {s : ByteArray} (h : tgB s = true) : mtB s (tgO s) = true := by
  obtain ⟨h1, h2⟩ := ls_one h
  unfold mtB
  rw [h1, h2]
  simp [wek_refl]

/-- A list of tags' texts. -/
def joT (V : List (List UInt8)) : List UInt8 := V.flatMap fun x => [32, 44, 9] ++ x
def joV (V : List (List UInt8)) : List Tg := V.map fun x => tgO (mkS x)
end Go.Proofs.YtjkfdjolhmgemaaGreatDoor
end
