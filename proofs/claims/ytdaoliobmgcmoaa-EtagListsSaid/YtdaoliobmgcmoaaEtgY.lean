/-
  Plain facts of layer 14: a tag comes back from its text, alone and in lists.
-/
import Derived.Test.YtdaoliobmgcmoaaEtgQ
namespace Go.Proofs.Ytdaoliobmgcmoaa
open Go.RowKit

theorem inn_q {c : UInt8} (h : innB (c.toNat : Int) = true) : c ≠ 34 := fun e => by
  subst e
  exact absurd h (by decide)
/-- What the text of a tag is. -/
theorem tg_form {s : ByteArray} (h : tgB s = true) : s.data.toList = (if wkB s then [87, 47] else []) ++ 34 :: (midL (offW s)).data.toList ++ [34] ∧ (∀ c ∈ (midL (offW s)).data.toList, c ≠ 34) := by
  unfold tgB at h
  rw [Bool.and_eq_true] at h
  obtain ⟨hf, hi⟩ := h
  refine ⟨?_, fun c hc => ?_⟩
  · have hr : (offW s).data.toList = 34 :: (midL (offW s)).data.toList ++ [34] := by
      generalize offW s = r at *
      unfold frmB at hf
      split at hf
      · rename_i h2
        rw [Bool.and_eq_true, beq_iff_eq, beq_iff_eq] at hf
        obtain ⟨m, hm⟩ : ∃ m, r.size = m + 2 := ⟨r.size - 2, by omega⟩
        have e0 : r[0] = 34 := UInt8.toNat_inj.1 hf.1
        have e1 : r[m + 1] = 34 := by
          have : r[r.size - 1] = 34 := UInt8.toNat_inj.1 hf.2
          have e : r.size - 1 = m + 1 := by omega
          simp only [e] at this
          exact this
        have p1 := piece_snoc r 1 (m + 1) (by omega) (by omega)
        rw [show m + 1 + 1 = r.size by omega, piece_all, e1] at p1
        have d0 := drop_at r 0 (by omega)
        rw [List.drop_zero, e0] at d0
        unfold midL
        rw [piece_ext, mkS_list, show r.size - 1 = m + 1 by omega, d0, p1]
        rfl
      · cases hf
    by_cases hw : wkB s = true
    · have ho : offW s = s.extract 2 s.size := by unfold offW; rw [if_pos hw]
      have hw2 := hw
      unfold wkB at hw2
      rw [Bool.and_eq_true, decide_eq_true_eq, beq_iff_eq] at hw2
      have e2 : s.data.toList.take 2 = [87, 47] := by
        have := hw2.2
        rw [Lib.toList_data, piece_ext, mkS_list] at this
        unfold piece at this
        exact this
      have e3 : s.data.toList.drop 2 = (offW s).data.toList := by rw [ho, piece_ext, mkS_list, piece_all]
      rw [if_pos hw, ← List.take_append_drop 2 s.data.toList, e2, e3, hr]
      simp
    · have ho : offW s = s := by unfold offW; rw [if_neg hw]
      rw [if_neg hw, ho]
      rw [ho] at hr
      exact hr
  · unfold allB at hi
    rw [List.all_eq_true] at hi
    exact inn_q (hi c hc)
theorem tg_text {s : ByteArray} (h : tgB s = true) : tgS (tgO s) = s := by
  have hl := (tg_form h).1
  have ho : tgO s = (wkB s, midL (offW s)) := by unfold tgO; rw [if_pos h]
  rw [ho]
  have : (tgS (wkB s, midL (offW s))).data.toList = s.data.toList := by
    rw [hl]
    unfold tgS
    rw [append_list, append_list]
    cases wkB s <;> simp
  rw [mkS_eq this, mkS_self]
theorem wek_refl (a : Tg) : wekB a a = true := by simp [wekB]
theorem wek_symm (a b : Tg) : wekB a b = wekB b a := by
  unfold wekB
  rw [Bool.eq_iff_iff, beq_iff_eq, beq_iff_eq]
  exact ⟨Eq.symm, Eq.symm⟩
theorem str_self (a : Tg) : strB a a = !a.1 := by
  unfold strB
  rw [show (a.2.toList == a.2.toList) = true by simp, Bool.and_true, Bool.and_self]
theorem str_wek (a b : Tg) : wekB a b = true ∨ strB a b = false := by
  unfold wekB strB
  cases (a.2.toList == b.2.toList)
  · exact .inr (by simp)
  · exact .inl rfl

/-! ### In a list -/
theorem lsR_in : ∀ (y : List UInt8) (p : List UInt8) (X : List Tg) (r : List UInt8), (∀ c ∈ y, c ≠ 34) → lsR true p X (y ++ r) = lsR true (p ++ y) X r
  | [], p, X, r, _ => by simp
  | c :: y, p, X, r, h => by
    rw [List.cons_append]
    show (if c ≠ 44 ∨ true = true then lsR (if c = 34 then !true else true) (p ++ [c]) X (y ++ r) else _) = _
    rw [if_pos (.inr rfl), if_neg (h c (List.mem_cons_self ..)), lsR_in y _ X r (fun d hd => h d (List.mem_cons_of_mem _ hd))]
    simp
theorem lsR_out (c : UInt8) (p : List UInt8) (X : List Tg) (r : List UInt8) (h : c ≠ 44) (h2 : c ≠ 34) : lsR false p X (c :: r) = lsR false (p ++ [c]) X r := by
  show (if c ≠ 44 ∨ false = true then lsR (if c = 34 then !false else false) (p ++ [c]) X r else _) = _
  rw [if_pos (.inl h), if_neg h2]
theorem lsR_quote (q : Bool) (p : List UInt8) (X : List Tg) (r : List UInt8) : lsR q p X (34 :: r) = lsR (!q) (p ++ [34]) X r := by
  show (if (34 : UInt8) ≠ 44 ∨ q = true then lsR (if (34 : UInt8) = 34 then !q else q) (p ++ [34]) X r else _) = _
  rw [if_pos (.inl (by decide)), if_pos rfl]
theorem lsR_comma (p : List UInt8) (X : List Tg) (r : List UInt8) : lsR false p X (44 :: r) = match addT p X with | none => none | some o => lsR false [] o r := by
  show (if (44 : UInt8) ≠ 44 ∨ false = true then _ else match addT p X with | none => none | some o => lsR false [] o r) = _
  rw [if_neg (by decide)]
theorem lsR_tag {x : List UInt8} (h : tgB (mkS x) = true) (p : List UInt8) (X : List Tg) (r : List UInt8) : lsR false p X (x ++ r) = lsR false (p ++ x) X r := by
  obtain ⟨hl, hi⟩ := tg_form h
  rw [mkS_list] at hl
  generalize (midL (offW (mkS x))).data.toList = y at *
  have key : ∀ p, lsR false p X ((34 :: y ++ [34]) ++ r) = lsR false (p ++ (34 :: y ++ [34])) X r := fun p => by
    rw [List.append_assoc, List.cons_append, lsR_quote]
    show lsR true (p ++ [34]) X (y ++ ([34] ++ r)) = _
    rw [lsR_in y _ X _ hi]
    show lsR true _ X (34 :: r) = _
    rw [lsR_quote]
    simp
  rw [hl]
  cases wkB (mkS x)
  · simpa using key p
  · have h1 : (if true = true then ([87, 47] : List UInt8) else []) ++ 34 :: y ++ [34] = 87 :: 47 :: (34 :: y ++ [34]) := by simp
    rw [h1, List.cons_append, List.cons_append, lsR_out 87 _ _ _ (by decide) (by decide), lsR_out 47 _ _ _ (by decide) (by decide), key]
    simp
/-- A tag's text begins and ends with no blank. -/
theorem tg_ends {x : List UInt8} (h : tgB (mkS x) = true) : (∃ a l, x = a :: l ∧ blkU a = false) ∧ (∃ l, x = l ++ [34]) ∧ 2 ≤ x.length := by
  obtain ⟨hl, _⟩ := tg_form h
  rw [mkS_list] at hl
  generalize (midL (offW (mkS x))).data.toList = y at *
  cases hw : wkB (mkS x)
  · rw [hw] at hl
    have hl : x = 34 :: y ++ [34] := by simpa using hl
    exact ⟨⟨34, y ++ [34], by rw [hl]; simp, by decide⟩, ⟨34 :: y, hl⟩, by rw [hl]; simp⟩
  · rw [hw] at hl
    have hl : x = [87, 47] ++ (34 :: y) ++ [34] := by simpa using hl
    exact ⟨⟨87, 47 :: 34 :: y ++ [34], by rw [hl]; simp, by decide⟩, ⟨_, hl⟩, by rw [hl]; simp⟩
theorem rdw_tag {x : List UInt8} (h : tgB (mkS x) = true) : rdw x = x := by
  obtain ⟨_, ⟨l, hl⟩, _⟩ := tg_ends h
  rw [hl]
  exact rdw_snoc_no l 34 (by decide)
theorem trim_tag {x : List UInt8} (h : tgB (mkS x) = true) : trimL x = x := by
  obtain ⟨⟨a, l, e, ha⟩, _, _⟩ := tg_ends h
  unfold trimL
  have : x.dropWhile blkU = x := by rw [e, List.dropWhile_cons_of_neg (by rw [ha]; decide)]
  rw [this, rdw_tag h]
theorem trim_tag9 {x : List UInt8} (h : tgB (mkS x) = true) : trimL (9 :: x) = x := by
  unfold trimL
  rw [List.dropWhile_cons_of_pos (by decide)]
  exact trim_tag h
theorem trim_tag932 {x : List UInt8} (h : tgB (mkS x) = true) : trimL (9 :: x ++ [32]) = x := by
  obtain ⟨⟨a, l, e, ha⟩, _, _⟩ := tg_ends h
  unfold trimL
  rw [List.cons_append, List.dropWhile_cons_of_pos (by decide)]
  have : (x ++ [32]).dropWhile blkU = x ++ [32] := by rw [e, List.cons_append, List.dropWhile_cons_of_neg (by rw [ha]; decide)]
  rw [this, rdw_snoc_yes x 32 (by decide), rdw_tag h]
theorem add_tag {x p : List UInt8} (h : tgB (mkS x) = true) (hp : trimL p = x) (X : List Tg) : addT p X = some (X ++ [tgO (mkS x)]) :=
  add_more hp (by obtain ⟨⟨a, l, e, _⟩, _⟩ := tg_ends h; rw [e]; simp) h
theorem ls_one {s : ByteArray} (h : tgB s = true) : lsA s = false ∧ lsL s = [tgO s] := by
  have h2 : tgB (mkS s.data.toList) = true := by rw [mkS_self]; exact h
  have ha : lsA s = false := by
    unfold lsA
    rw [trim_tag h2, mkS_self, Lib.toList_data, beq_eq_false_iff_ne]
    intro e
    have := (tg_ends h2).2.2
    rw [e] at this
    exact absurd this (by decide)
  refine ⟨ha, ?_⟩
  unfold lsL
  rw [ha]
  show lsP s = _
  unfold lsP
  have := lsR_tag h2 [] [] []
  rw [List.append_nil, List.nil_append] at this
  rw [this]
  show (addT s.data.toList []).getD [] = _
  rw [add_tag h2 (trim_tag h2), mkS_self]
  rfl
theorem match_self {s : ByteArray} (h : tgB s = true) : mtB s (tgO s) = true := by
  obtain ⟨h1, h2⟩ := ls_one h
  unfold mtB
  rw [h1, h2]
  simp [wek_refl]

/-- A list of tags' texts. -/
def joT (V : List (List UInt8)) : List UInt8 := V.flatMap fun x => [32, 44, 9] ++ x
def joV (V : List (List UInt8)) : List Tg := V.map fun x => tgO (mkS x)
theorem joT_snoc (V : List (List UInt8)) (x : List UInt8) : joT (V ++ [x]) = joT V ++ ([32, 44, 9] ++ x) := by unfold joT; simp
theorem joV_snoc (V : List (List UInt8)) (x : List UInt8) : joV (V ++ [x]) = joV V ++ [tgO (mkS x)] := by unfold joV; simp
theorem jo_rest : ∀ (V : List (List UInt8)) (x : List UInt8) (X : List Tg), tgB (mkS x) = true → (∀ y ∈ V, tgB (mkS y) = true) → lsR false (9 :: x) X (joT V) = some (X ++ joV (x :: V))
  | [], x, X, h, _ => by
    show addT (9 :: x) X = _
    rw [add_tag h (trim_tag9 h)]
    rfl
  | y :: V, x, X, h, hV => by
    have hy := hV y (List.mem_cons_self ..)
    have e : joT (y :: V) = 32 :: 44 :: 9 :: (y ++ joT V) := by unfold joT; simp
    rw [e, lsR_out 32 _ _ _ (by decide) (by decide), lsR_comma, add_tag h (trim_tag932 h)]
    show lsR false [] (X ++ [tgO (mkS x)]) (9 :: (y ++ joT V)) = _
    rw [lsR_out 9 _ _ _ (by decide) (by decide), lsR_tag hy]
    show lsR false (9 :: y) _ _ = _
    rw [jo_rest V y _ hy (fun z hz => hV z (List.mem_cons_of_mem _ hz))]
    simp [joV]
theorem jo_all {V : List (List UInt8)} (hV : ∀ y ∈ V, tgB (mkS y) = true) : lsR false [] [] (joT V) = some (joV V) := by
  cases V with
  | nil => rfl
  | cons y V =>
    have hy := hV y (List.mem_cons_self ..)
    have e : joT (y :: V) = 32 :: 44 :: 9 :: (y ++ joT V) := by unfold joT; simp
    rw [e, lsR_out 32 _ _ _ (by decide) (by decide), lsR_comma]
    show lsR false [] [] (9 :: (y ++ joT V)) = _
    rw [lsR_out 9 _ _ _ (by decide) (by decide), lsR_tag hy]
    show lsR false (9 :: y) _ _ = _
    rw [jo_rest V y [] hy (fun z hz => hV z (List.mem_cons_of_mem _ hz))]
    rfl
theorem jo_any {V : List (List UInt8)} : lsA (mkS (joT V)) = false := by
  unfold lsA
  rw [mkS_list, Lib.toList_data, mkS_list, beq_eq_false_iff_ne]
  intro h
  cases V with
  | nil => exact absurd h (by decide)
  | cons y V =>
    have e : joT (y :: V) = 32 :: 44 :: 9 :: (y ++ joT V) := by unfold joT; simp
    unfold trimL at h
    rw [e, List.dropWhile_cons_of_pos (by decide), List.dropWhile_cons_of_neg (by decide)] at h
    have hp := rdw_prefix (44 :: 9 :: (y ++ joT V))
    rw [h] at hp
    obtain ⟨t, ht⟩ := hp
    simp at ht
theorem jo_ls {V : List (List UInt8)} (hV : ∀ y ∈ V, tgB (mkS y) = true) : lsL (mkS (joT V)) = joV V ∧ lsE (mkS (joT V)) = (if V.length = 0 then 5 else 0) := by
  have hP : lsP (mkS (joT V)) = joV V := by
    unfold lsP
    rw [mkS_list, jo_all hV]
    rfl
  refine ⟨by unfold lsL; rw [jo_any, hP]; rfl, ?_⟩
  unfold lsE
  rw [jo_any, hP]
  cases V <;> simp [joV]
theorem jo_match {V : List (List UInt8)} (hV : ∀ y ∈ V, tgB (mkS y) = true) (t : Tg) : mtB (mkS (joT V)) t = (joV V).any fun x => wekB x t := by
  unfold mtB
  rw [jo_any, (jo_ls hV).1, Bool.false_or]
theorem any_star (t : Tg) : mtB ⟨#[42]⟩ t = true := by
  unfold mtB
  rw [show lsA ⟨#[42]⟩ = true by kernel_rfl]
  rfl

end Go.Proofs.Ytdaoliobmgcmoaa
