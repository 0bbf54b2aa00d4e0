/-
  Plain facts of layer 9: what is parsed may be; a field's line is parsed as the field; what dropping and setting leave (P9.4).
-/
import Derived.Test.YteiihnniodkjbaaFldX
namespace Go.Proofs.Yteiihnniodkjbaa
open Go.RowKit

/-! ### Lines -/
theorem cut_sizes {s : ByteArray} (h : cutOk s 58 = true) : (cutA s 58).size + 1 + (cutZ s 58).size ≤ s.size := by
  rcases idx_cases s 58 (by decide) (by decide) with ⟨hn, _⟩ | ⟨i, hi, hlt, _, _⟩
  · rw [(cut_miss hn).2.2] at h; cases h
  · obtain ⟨e1, e2, _⟩ := cut_hit hi
    rw [e1, e2, ByteArray.size_extract, ByteArray.size_extract]
    omega
theorem parsed_chk {s : ByteArray} (h : flX s = 0) (hs : s.size ≤ 5000) : chkN [flF s] = 0 := by
  have hl : ¬ 8192 < s.size := by omega
  have ho : flO s = true := by
    cases e : flO s with
    | true => rfl
    | false => rw [(fl_no hl e).2] at h; exact absurd h (by decide)
  rw [(fl_yes hl ho).1]
  have hp := fl_prp s
  rw [ho, Bool.and_eq_true] at hp
  have hz := cut_sizes hp.1
  have h1 : (flT s).1 = cutA s 58 := rfl
  have h2 : (flT s).2.size ≤ (cutZ s 58).size := by
    show (mkS (trimL (cutZ s 58).data.toList)).size ≤ _
    rw [mkS_size, Lib.size_eq]
    exact trim_le _
  have hlg : lngF (flT s) = false := by
    unfold lngF
    rw [h1]
    exact decide_eq_false (by omega)
  unfold chkN
  simp [hp.2, hlg]

theorem chk_zero {L : List Fd} (h : chkN L = 0) : ∀ x ∈ L, prpF x = true ∧ lngF x = false := fun x hx => by
  unfold chkN at h
  split at h
  · cases h
  · split at h
    · cases h
    · split at h
      · cases h
      · rename_i h1 h2 h3
        rw [Bool.not_eq_true, List.any_eq_false] at h2 h3
        exact ⟨by have := h2 x hx; simpa using this, by have := h3 x hx; simpa using this⟩

theorem tok_no_colon (c : UInt8) (h : tokB (c.toNat : Int) = true) : (c.toNat : Int) ≠ 58 := fun e => by
  rw [e] at h
  exact absurd h (by decide)

theorem line_parse {x : Fd} (hp : prpF x = true) (hl : lngF x = false) : flF (lineS x) = x ∧ flX (lineS x) = 0 := by
  obtain ⟨a, b⟩ := x
  have hsz : ¬ 8192 < (lineS (a, b)).size := by
    rw [line_size]
    unfold lngF at hl
    simpa using hl
  unfold prpF at hp
  simp only [Bool.and_eq_true] at hp
  obtain ⟨⟨⟨h1, h2⟩, h3⟩, h4⟩ := hp
  have hlist := line_list (a, b)
  simp only at hlist
  have hlt : a.size < (lineS (a, b)).size := by rw [line_size]; simp only; omega
  have hat : ∀ (k : Nat) (hk : k < (lineS (a, b)).size), ((lineS (a, b))[k]).toNat = (((a.data.toList ++ [58, 32] ++ b.data.toList)[k]?).getD 0).toNat := fun k hk => by
    have : (lineS (a, b)).data.toList[k]? = some (lineS (a, b))[k] := by
      rw [List.getElem?_eq_getElem (by rw [← Lib.size_eq]; exact hk)]; rfl
    rw [← hlist, this]; rfl
  have hla : a.data.toList.length = a.size := (Lib.size_eq a).symm
  have hi : idxOf (lineS (a, b)) 58 = a.size := by
    refine idx_first _ 58 (by decide) (by decide) a.size hlt ?_ fun k hk => ?_
    · rw [hat a.size hlt, List.append_assoc, List.getElem?_append_right (by omega), hla, Nat.sub_self]; rfl
    · have hk2 : k < (lineS (a, b)).size := by omega
      rw [hat k hk2, List.append_assoc, List.getElem?_append_left (by omega), List.getElem?_eq_getElem (by omega)]
      refine tok_no_colon _ ?_
      unfold allB at h2
      rw [List.all_eq_true] at h2
      exact h2 _ (List.getElem_mem _)
  obtain ⟨e1, e2, e3⟩ := cut_hit hi
  have hA : cutA (lineS (a, b)) 58 = a := by
    rw [e1]
    have := piece_ext (lineS (a, b)) 0 a.size
    rw [this]
    have hl2 : piece (lineS (a, b)) 0 a.size = a.data.toList := by
      unfold piece
      rw [List.drop_zero, hlist, List.append_assoc, List.take_append_of_le_length (by omega), List.take_of_length_le (by omega)]
    rw [hl2, mkS_self]
  have hZ : (cutZ (lineS (a, b)) 58).data.toList = 32 :: b.data.toList := by
    rw [e2, piece_ext, mkS_list, piece_all, hlist, List.append_assoc, List.drop_append, hla]
    rw [List.drop_eq_nil_of_le (by omega), show a.size + 1 - a.size = 1 by omega]
    rfl
  have hb : trimL b.data.toList = b.data.toList := by
    have e := eq_of_beq h4
    rw [Lib.toList_data, Lib.toList_data, mkS_list] at e
    exact e
  have hT : flT (lineS (a, b)) = (a, b) := by
    show (cutA (lineS (a, b)) 58, mkS (trimL (cutZ (lineS (a, b)) 58).data.toList)) = _
    have ht : trimL (32 :: b.data.toList) = b.data.toList := by
      have : trimL (32 :: b.data.toList) = trimL b.data.toList := by
        unfold trimL
        rw [List.dropWhile_cons, if_pos (by decide)]
      rw [this, hb]
    rw [hA, hZ, ht, mkS_self]
  have hO : flO (lineS (a, b)) = true := by
    unfold flO
    rw [hT, e3]
    simp [h1, h2, h3]
  rw [(fl_yes hsz hO).1, (fl_yes hsz hO).2, hT]
  exact ⟨rfl, rfl⟩
theorem lines_back {L : List Fd} (h : chkN L = 0) : ∀ x ∈ L, flF (lineS x) = x ∧ flX (lineS x) = 0 := fun x hx => line_parse (chk_zero h x hx).1 (chk_zero h x hx).2

/-! ### Drop, Set -/
theorem same_no {a b c : ByteArray} (h : sameB a b = true) (g : sameB c b = false) : sameB a c = false := by
  unfold sameB at *
  rw [beq_iff_eq] at h
  rw [beq_eq_false_iff_ne] at g ⊢
  rw [h]
  exact fun e => g e.symm
theorem drop_one (L : List Fd) (n : ByteArray) : fdDrop L [n.data.toList] = L.filter fun x => !sameB x.1 n := by
  unfold fdDrop
  rw [nmd_one']
theorem dropped_none (L : List Fd) (n : ByteArray) : fdAll (fdDrop L [n.data.toList]) n = [] := by
  unfold fdAll
  rw [drop_one, List.filter_filter]
  have : (fun x : Fd => sameB x.1 n && !sameB x.1 n) = fun _ => false := by
    funext x
    cases sameB x.1 n <;> rfl
  rw [this]
  simp
theorem dropped_got (L : List Fd) (n : ByteArray) : fdGot (fdDrop L [n.data.toList]) n = false ∧ fdGet (fdDrop L [n.data.toList]) n = ⟨#[]⟩ := by
  unfold fdGot fdGet
  rw [dropped_none]
  exact ⟨rfl, rfl⟩
theorem dropped_other (L : List Fd) (n o : ByteArray) (h : sameB o n = false) : fdAll (fdDrop L [n.data.toList]) o = fdAll L o := by
  unfold fdAll
  rw [drop_one, List.filter_filter]
  congr 2
  funext x
  cases e : sameB x.1 n with
  | false => simp
  | true => simp [same_no e h]
theorem set_split (L : List Fd) (f : Fd) : ∃ i, i ≤ (fdDrop L [f.1.data.toList]).length ∧ fdSet L f = (fdDrop L [f.1.data.toList]).take i ++ [f] ++ (fdDrop L [f.1.data.toList]).drop i := by
  rcases set_place L f with ⟨_, h⟩ | ⟨i, _, hi, h⟩
  · exact ⟨_, Nat.le_refl _, h⟩
  · exact ⟨i, hi, h⟩
theorem set_len (L : List Fd) (f : Fd) : (fdSet L f).length = (fdDrop L [f.1.data.toList]).length + 1 := by
  obtain ⟨i, hi, h⟩ := set_split L f
  rw [h]
  simp only [List.length_append, List.length_take, List.length_drop, List.length_cons, List.length_nil]; omega
theorem same_self (a : ByteArray) : sameB a a = true := by unfold sameB; simp
theorem set_all (L : List Fd) (f : Fd) (p : Fd → Bool) : (fdSet L f).filter p = ((fdDrop L [f.1.data.toList]).take (Classical.choose (set_split L f))).filter p ++ (if p f then [f] else []) ++ ((fdDrop L [f.1.data.toList]).drop (Classical.choose (set_split L f))).filter p := by
  have h := (Classical.choose_spec (set_split L f)).2
  rw [congrArg (List.filter p) h, List.filter_append, List.filter_append]
  congr 2
  by_cases hp : p f = true
  · simp [hp]
  · simp [hp]
theorem set_got (L : List Fd) (f : Fd) : fdGot (fdSet L f) f.1 = true ∧ fdGet (fdSet L f) f.1 = f.2 := by
  have hno : ∀ x ∈ fdDrop L [f.1.data.toList], sameB x.1 f.1 = false := fun x hx => by
    rw [drop_one] at hx
    simpa using (List.mem_filter.1 hx).2
  have h : fdAll (fdSet L f) f.1 = [f.2.data.toList] := by
    unfold fdAll
    rw [set_all, if_pos (same_self _)]
    have e1 : ∀ i, ((fdDrop L [f.1.data.toList]).take i).filter (fun x => sameB x.1 f.1) = [] := fun i => List.filter_eq_nil_iff.2 fun x hx => by simp [hno x (List.mem_of_mem_take hx)]
    have e2 : ∀ i, ((fdDrop L [f.1.data.toList]).drop i).filter (fun x => sameB x.1 f.1) = [] := fun i => List.filter_eq_nil_iff.2 fun x hx => by simp [hno x (List.mem_of_mem_drop hx)]
    rw [e1, e2]; rfl
  unfold fdGot fdGet
  rw [h, Lib.join_one, mkS_self]
  exact ⟨rfl, rfl⟩
theorem set_other (L : List Fd) (f : Fd) (o : ByteArray) (h : sameB o f.1 = false) : fdAll (fdSet L f) o = fdAll L o := by
  rw [← dropped_other L f.1 o h]
  unfold fdAll
  rw [set_all, if_neg (by rw [same_symm, h]; simp), List.append_nil, ← List.filter_append, List.take_append_drop]
theorem set_drop (L : List Fd) (f : Fd) : fdDrop (fdSet L f) [f.1.data.toList] = fdDrop L [f.1.data.toList] := by
  rw [drop_one (fdSet L f), set_all, if_neg (by simp [same_self]), List.append_nil, ← List.filter_append, List.take_append_drop, drop_one, List.filter_filter]
  simp
theorem alk_self (x : Fd) : alk x x = true := by simp [alk, same_self]
theorem bth_self (L : List Fd) : bth L L = true := bthP_refl alk alk_self L
theorem fd_got_len (L : List Fd) (n : ByteArray) (k : Nat) (h : L.length ≤ k) : (fdAll L n).length ≤ k := by
  unfold fdAll
  rw [List.length_map]
  exact Nat.le_trans (List.length_filter_le _ _) h
theorem fd_join_le (L : List Fd) (n : ByteArray) (h : L.length ≤ 71) (hs : ∀ x ∈ L, x.2.size ≤ 10000) : (Lib.join (fdAll L n) [44, 32]).length ≤ 1000000000000 := by
  refine Nat.le_trans (join_le _ 71 10000 (fd_got_len L n 71 h) ?_) (by decide)
  intro x hx
  unfold fdAll at hx
  obtain ⟨y, hy, rfl⟩ := List.mem_map.1 hx
  rw [← Lib.size_eq]
  exact hs y (List.mem_filter.1 hy).1
theorem drop_mem {L : List Fd} {ns : List (List UInt8)} {x : Fd} (h : x ∈ fdDrop L ns) : x ∈ L := (List.mem_filter.1 h).1
theorem set_mem {L : List Fd} {f x : Fd} (h : x ∈ fdSet L f) : x = f ∨ x ∈ L := by
  obtain ⟨i, _, e⟩ := set_split L f
  rw [e, List.mem_append, List.mem_append] at h
  rcases h with (h | h) | h
  · exact .inr (drop_mem (List.mem_of_mem_take h))
  · exact .inl (by simpa using h)
  · exact .inr (drop_mem (List.mem_of_mem_drop h))
theorem drop_len (L : List Fd) (ns : List (List UInt8)) : (fdDrop L ns).length ≤ L.length := List.length_filter_le _ _

end Go.Proofs.Yteiihnniodkjbaa
