/-
  Plain facts of layer 10: what is printed is read as it is, what is read is printed as it was (P10.4).
-/
import Derived.Test.YtbmlldjkfpekkaaDoorLirM
namespace Go.Proofs.YtbmlldjkfpekkaaDoor
open Go.RowKit

/-! ### Cutting at the first space -/
theorem lin_cut {s : ByteArray} {A B : List UInt8} (h : s.data.toList = A ++ 32 :: B) (hn : ∀ x ∈ A, x ≠ 32) : cutA s 32 = mkS A ∧ cutZ s 32 = mkS B ∧ cutOk s 32 = true := by
  have hsz : s.size = A.length + (B.length + 1) := by rw [Lib.size_eq, h, List.length_append, List.length_cons]
  have hlt : A.length < s.size := by omega
  have hat : ∀ (k : Nat) (hk : k < s.size), (A ++ 32 :: B)[k]? = some s[k] := fun k hk => by
    rw [← h, List.getElem?_eq_getElem (by rw [← Lib.size_eq]; exact hk)]; rfl
  have hi : idxOf s 32 = A.length := by
    refine idx_first s 32 (by decide) (by decide) A.length hlt ?_ fun k hk => ?_
    · have := hat A.length hlt
      rw [List.getElem?_append_right (Nat.le_refl _), Nat.sub_self, List.getElem?_cons_zero, Option.some.injEq] at this
      rw [← this]; rfl
    · have h2 := hat k (by omega)
      rw [List.getElem?_append_left hk] at h2
      obtain ⟨h3, h4⟩ := List.getElem?_eq_some_iff.1 h2
      have h5 := hn _ (List.getElem_mem h3)
      rw [h4] at h5
      intro e
      apply h5
      rw [← UInt8.toNat_inj]
      have : (s[k].toNat : Int) = 32 := e
      have h32 : (32 : UInt8).toNat = 32 := rfl
      omega
  obtain ⟨e1, e2, e3⟩ := cut_hit hi
  refine ⟨?_, ?_, e3⟩
  · rw [e1, piece_ext]
    congr 1
    unfold piece
    rw [List.drop_zero, h, Nat.sub_zero, List.take_append_of_le_length (Nat.le_refl _), List.take_length]
  · rw [e2, piece_ext, piece_all, h]
    congr 1
    rw [List.drop_append, List.drop_eq_nil_of_le (by omega), List.nil_append, show A.length + 1 - A.length = 1 by omega]
    rfl
theorem lin_cut_no {s : ByteArray} (h : cutOk s 32 = false) : cutA s 32 = s ∧ cutZ s 32 = ⟨#[]⟩ := by
  rcases idx_cases s 32 (by decide) (by decide) with ⟨hn, _⟩ | ⟨i, hi, _⟩
  · exact ⟨(cut_miss hn).1, (cut_miss hn).2.1⟩
  · rw [(cut_hit hi).2.2] at h; cases h
theorem lin_cut_yes {s : ByteArray} (h : cutOk s 32 = true) : s.data.toList = (cutA s 32).data.toList ++ 32 :: (cutZ s 32).data.toList := by
  rcases idx_cases s 32 (by decide) (by decide) with ⟨hn, _⟩ | ⟨i, hi, hlt, he, _⟩
  · rw [(cut_miss hn).2.2] at h; cases h
  · obtain ⟨e1, e2, _⟩ := cut_hit hi
    have hj := cut_joins s i hlt
    have hb : s[i] = 32 := by
      rw [← UInt8.toNat_inj]
      have h32 : (32 : UInt8).toNat = 32 := rfl
      omega
    have := congrArg (fun x : ByteArray => x.data.toList) hj
    simp only [ByteArray.data_append, Array.toList_append] at this
    rw [e1, e2, ← this, hb, List.append_assoc]
    rfl
theorem lin_uniq : ∀ {a b c d : List UInt8}, a ++ 32 :: b = c ++ 32 :: d → (∀ x ∈ c, x ≠ 32) → (∀ x ∈ d, x ≠ 32) → a = c ∧ b = d
  | [], b, [], d, h, _, _ => ⟨rfl, by simpa using h⟩
  | [], b, y :: c, d, h, hc, _ => by
    simp only [List.nil_append, List.cons_append, List.cons.injEq] at h
    exact absurd h.1.symm (hc y (List.mem_cons_self ..))
  | x :: a, b, [], d, h, _, hd => by
    simp only [List.nil_append, List.cons_append, List.cons.injEq] at h
    exact absurd rfl (hd 32 (by rw [← h.2]; simp))
  | x :: a, b, y :: c, d, h, hc, hd => by
    simp only [List.cons_append, List.cons.injEq] at h
    obtain ⟨h1, h2⟩ := lin_uniq h.2 (fun z hz => hc z (List.mem_cons_of_mem _ hz)) hd
    exact ⟨by rw [h.1, h1], h2⟩

/-! ### Versions -/
theorem ver_yes {s : ByteArray} (h : 0 ≤ verI s) : (verI s = 0 ∧ s = mkS ht0) ∨ (verI s = 1 ∧ s = mkS ht1) := by
  unfold verI at h ⊢
  split
  · rename_i e
    exact .inl ⟨rfl, str_eq e⟩
  · split
    · rename_i e
      exact .inr ⟨rfl, str_eq e⟩
    · rename_i e1 e2
      rw [if_neg e1, if_neg e2] at h
      exact absurd h (by decide)
theorem ver_text {v : Int} (h0 : 0 ≤ v) (h1 : v ≤ 1) : ([72, 84, 84, 80, 47, 49, 46] ++ plainL v : List UInt8) = (if v = 0 then ht0 else ht1) ∧ verI (mkS ([72, 84, 84, 80, 47, 49, 46] ++ plainL v)) = v := by
  have : v = 0 ∨ v = 1 := by omega
  rcases this with rfl | rfl
  · constructor <;> decide +kernel
  · constructor <;> decide +kernel
theorem ver_list {s : ByteArray} (h : 0 ≤ verI s) : s.data.toList = [72, 84, 84, 80, 47, 49, 46] ++ plainL (verI s) := by
  rcases ver_yes h with ⟨h1, h2⟩ | ⟨h1, h2⟩
  · rw [h1, h2, mkS_list]; decide +kernel
  · rw [h1, h2, mkS_list]; decide +kernel
theorem ver_le {s : ByteArray} (h : 0 ≤ verI s) : verI s ≤ 1 := by
  rcases ver_yes h with ⟨h1, _⟩ | ⟨h1, _⟩ <;> omega

/-! ### Request lines -/
theorem prq_list (m t : ByteArray) (v : Int) : (prqS m t v).data.toList = m.data.toList ++ 32 :: (t.data.toList ++ 32 :: ([72, 84, 84, 80, 47, 49, 46] ++ plainL v)) := by
  unfold prqS
  rw [append_list, append_list, append_list, append_list, mkS_list]
  simp
theorem vis_no_space {t : ByteArray} (h : allB visB t.data.toList = true) : ∀ x ∈ t.data.toList, x ≠ 32 := fun x hx e => by
  unfold allB at h
  rw [List.all_eq_true] at h
  have := h x hx
  rw [e] at this
  exact absurd this (by decide)
theorem tok_no_space {m : ByteArray} (h : tokS m = true) : ∀ x ∈ m.data.toList, x ≠ 32 := fun x hx e => by
  unfold tokS allB at h
  rw [Bool.and_eq_true, List.all_eq_true] at h
  have := h.2 x hx
  rw [e] at this
  exact absurd this (by decide)
/-- A request line's parts form it. -/
theorem rq_print {s : ByteArray} (h : rqO s = true) : prqS (rqM s) (rqT s) (verI (rqL s)) = s ∧ 0 ≤ verI (rqL s) ∧ verI (rqL s) ≤ 1 := by
  have h0 := h
  unfold rqO rqH at h
  simp only [Bool.and_eq_true, decide_eq_true_eq] at h
  obtain ⟨⟨⟨h1, h2⟩, h3⟩, h4⟩ := h
  have hne : ¬ (rqT s).toList.isEmpty = true := by simpa using h2
  have k1 : cutOk s 32 = true := by
    cases e : cutOk s 32 with
    | true => rfl
    | false =>
      exfalso
      have hz := (lin_cut_no e).2
      apply hne
      unfold rqT
      rw [hz]
      decide +kernel
  have k2 : cutOk (cutZ s 32) 32 = true := by
    cases e : cutOk (cutZ s 32) 32 with
    | true => rfl
    | false =>
      exfalso
      have hz := (lin_cut_no e).2
      have : rqL s = ⟨#[]⟩ := hz
      rw [this] at h3
      exact absurd h3 (by decide +kernel)
  have e1 := lin_cut_yes k1
  have e2 := lin_cut_yes k2
  have e3 := ver_list h3
  refine ⟨?_, h3, ver_le h3⟩
  have hl : (prqS (rqM s) (rqT s) (verI (rqL s))).data.toList = s.data.toList := by
    rw [prq_list, ← e3, e1, e2]; rfl
  rw [mkS_eq hl, mkS_self]
theorem rq_back {s : ByteArray} (h : rqE s = 0) : prqS (rqA s) (rqB s) (rqV s) = s ∧ 0 ≤ rqV s ∧ rqV s ≤ 1 := by
  have hl : ¬ 8192 < s.size := fun hl => by rw [(rq_long hl).2.2.2] at h; exact absurd h (by decide)
  have ho : rqO s = true := by
    cases e : rqO s with
    | true => rfl
    | false => rw [(rq_no hl e).2.2.2] at h; exact absurd h (by decide)
  obtain ⟨e1, e2, e3, _⟩ := rq_yes hl ho
  rw [e1, e2, e3]
  exact rq_print ho

def fineQ (m t : ByteArray) : Bool := (tokS m && !t.toList.isEmpty) && allB visB t.data.toList
theorem rq_of_print {m t : ByteArray} {v : Int} (h0 : 0 ≤ v) (h1 : v ≤ 1) (hf : fineQ m t = true) : rqM (prqS m t v) = m ∧ rqT (prqS m t v) = t ∧ verI (rqL (prqS m t v)) = v ∧ rqO (prqS m t v) = true := by
  unfold fineQ at hf
  simp only [Bool.and_eq_true] at hf
  obtain ⟨⟨f1, f2⟩, f3⟩ := hf
  obtain ⟨a1, a2, _⟩ := lin_cut (prq_list m t v) (tok_no_space f1)
  have hZ : (cutZ (prqS m t v) 32).data.toList = t.data.toList ++ 32 :: ([72, 84, 84, 80, 47, 49, 46] ++ plainL v) := by rw [a2, mkS_list]
  obtain ⟨b1, b2, _⟩ := lin_cut hZ (vis_no_space f3)
  have hM : rqM (prqS m t v) = m := by unfold rqM; rw [a1, mkS_self]
  have hT : rqT (prqS m t v) = t := by unfold rqT; rw [b1, mkS_self]
  have hL : verI (rqL (prqS m t v)) = v := by unfold rqL; rw [b2]; exact (ver_text h0 h1).2
  refine ⟨hM, hT, hL, ?_⟩
  unfold rqO rqH
  rw [hM, hT, hL, f1, f2, f3, decide_eq_true h0]; rfl
theorem rq_fine {m t : ByteArray} {v : Int} (h0 : 0 ≤ v) (h1 : v ≤ 1) (ho : rqO (prqS m t v) = true) : fineQ m t = true := by
  obtain ⟨hp, g0, g1⟩ := rq_print ho
  have hO := ho
  unfold rqO rqH at hO
  simp only [Bool.and_eq_true, decide_eq_true_eq] at hO
  obtain ⟨⟨⟨k1, k2⟩, k3⟩, k4⟩ := hO
  generalize rqM (prqS m t v) = M at *
  generalize rqT (prqS m t v) = T at *
  generalize verI (rqL (prqS m t v)) = u at *
  have hl := congrArg (fun x : ByteArray => x.data.toList) hp
  simp only [prq_list] at hl
  have pl : ∀ x : Int, 0 ≤ x → x ≤ 1 → (plainL x).length = 1 := fun x hx hy => by
    have : x = 0 ∨ x = 1 := by omega
    rcases this with rfl | rfl <;> decide +kernel
  have hll : (M.data.toList ++ 32 :: T.data.toList).length = (m.data.toList ++ 32 :: t.data.toList).length := by
    have := congrArg List.length hl
    simp only [List.length_append, List.length_cons, pl u g0 g1, pl v h0 h1] at this ⊢
    omega
  have hsp : (M.data.toList ++ 32 :: T.data.toList) ++ 32 :: ([72, 84, 84, 80, 47, 49, 46] ++ plainL u) = (m.data.toList ++ 32 :: t.data.toList) ++ 32 :: ([72, 84, 84, 80, 47, 49, 46] ++ plainL v) := by
    rw [List.append_assoc, List.append_assoc, List.cons_append, List.cons_append]
    exact hl
  have he := List.append_inj_left hsp hll
  obtain ⟨q1, q2⟩ := lin_uniq he.symm (tok_no_space k1) (vis_no_space k4)
  have hm : m = M := by rw [mkS_eq q1, mkS_self]
  have ht : t = T := by rw [mkS_eq q2, mkS_self]
  unfold fineQ
  rw [hm, ht, k1, k2, k4]; rfl
theorem prq_size (m t : ByteArray) (v : Int) (h0 : 0 ≤ v) (h1 : v ≤ 1) : (prqS m t v).size = m.size + t.size + 10 := by
  rw [Lib.size_eq, prq_list]
  have : v = 0 ∨ v = 1 := by omega
  have pl : (plainL v).length = 1 := by rcases this with rfl | rfl <;> decide +kernel
  simp only [List.length_append, List.length_cons, List.length_nil, pl]
  rw [← Lib.size_eq, ← Lib.size_eq]
  omega
theorem rq_trip {m t : ByteArray} {v : Int} (h0 : 0 ≤ v) (h1 : v ≤ 1) (hm : m.size ≤ 1000) (ht : t.size ≤ 1000) :
    (fineQ m t = true → rqE (prqS m t v) = 0 ∧ rqA (prqS m t v) = m ∧ rqB (prqS m t v) = t ∧ rqV (prqS m t v) = v) ∧ (fineQ m t = false → rqE (prqS m t v) = 20) := by
  have hl : ¬ 8192 < (prqS m t v).size := by rw [prq_size m t v h0 h1]; omega
  constructor
  · intro hf
    obtain ⟨e1, e2, e3, e4⟩ := rq_of_print h0 h1 hf
    obtain ⟨y1, y2, y3, y4⟩ := rq_yes hl e4
    exact ⟨y4, by rw [y1, e1], by rw [y2, e2], by rw [y3, e3]⟩
  · intro hf
    cases e : rqO (prqS m t v) with
    | true => rw [rq_fine h0 h1 e] at hf; cases hf
    | false => exact (rq_no hl e).2.2.2

/-! ### Status lines -/
theorem dig_byte : ∀ n : Nat, n < 256 → digV (n : Int) < 10 → 48 ≤ n ∧ n ≤ 57 := by decide +kernel
theorem dig_three : ∀ x : Nat, x < 10 → ∀ y : Nat, y < 10 → ∀ z : Nat, z < 10 → 100 ≤ valV 10 [UInt8.ofNat (48 + x), UInt8.ofNat (48 + y), UInt8.ofNat (48 + z)] → plainL (valV 10 [UInt8.ofNat (48 + x), UInt8.ofNat (48 + y), UInt8.ofNat (48 + z)]) = [UInt8.ofNat (48 + x), UInt8.ofNat (48 + y), UInt8.ofNat (48 + z)] := by decide +kernel
theorem dig_of {c : UInt8} (h : isD 10 (c.toNat : Int) = true) : ∃ x, x < 10 ∧ c = UInt8.ofNat (48 + x) := by
  rw [isD_true] at h
  obtain ⟨h1, h2⟩ := dig_byte c.toNat c.toNat_lt h
  refine ⟨c.toNat - 48, by omega, ?_⟩
  rw [← UInt8.toNat_inj, UInt8.toNat_ofNat']
  omega
theorem digs_three {l : List UInt8} (hl : l.length = 3) (hd : allB (isD 10) l = true) (hv : 100 ≤ valV 10 l) : plainL (valV 10 l) = l := by
  match l, hl with
  | [a, b, c], _ =>
    unfold allB at hd
    simp only [List.all_cons, List.all_nil, Bool.and_true, Bool.and_eq_true] at hd
    obtain ⟨x, hx, rfl⟩ := dig_of hd.1
    obtain ⟨y, hy, rfl⟩ := dig_of hd.2.1
    obtain ⟨z, hz, rfl⟩ := dig_of hd.2.2
    exact dig_three x hx y hy z hz hv
theorem num_zero {l : List UInt8} (h : numE 10 18 599 l = 0) : allB (isD 10) l = true ∧ numN 10 18 599 l = valV 10 l ∧ valV 10 l ≤ 599 := by
  unfold numE at h
  split at h
  · exact absurd h (by decide)
  · rename_i h1
    split at h
    · exact absurd h (by decide)
    · rename_i h2
      have h3 : allB (isD 10) l = true := by
        cases e : allB (isD 10) l with
        | true => rfl
        | false => exact absurd (.inr (.inr e)) h1
      refine ⟨h3, ?_, by omega⟩
      unfold numN
      rw [if_neg]
      rintro (h | h | h | h)
      · exact h1 (.inl h)
      · exact h1 (.inr (.inl h))
      · exact h1 (.inr (.inr h))
      · exact h2 h
theorem ext_list (s : ByteArray) (i j : Nat) : (s.extract i j).data.toList = (s.data.toList.drop i).take (j - i) := by
  rw [piece_ext, mkS_list]; rfl
theorem pst_list (c : Int) (r : ByteArray) (v : Int) : (pstS c r v).data.toList = ([72, 84, 84, 80, 47, 49, 46] ++ plainL v) ++ 32 :: (plainL c ++ 32 :: r.data.toList) := by
  unfold pstS
  rw [append_list, append_list, append_list, append_list, append_list, mkS_list, mkS_list]
  simp
theorem byteI_32 {s : ByteArray} {k : Nat} (hk : k < s.size) (h : byteI s k = 32) : s.data.toList[k]? = some 32 := by
  unfold byteI at h
  obtain ⟨c, hc⟩ : ∃ c, s.data.toList[k]? = some c := ⟨_, List.getElem?_eq_getElem (by rw [← Lib.size_eq]; exact hk)⟩
  rw [hc] at h ⊢
  simp only [Option.getD_some] at h
  congr 1
  rw [← UInt8.toNat_inj]
  have h32 : (32 : UInt8).toNat = 32 := rfl
  omega
theorem st_print {s : ByteArray} (h : stO s = true) : pstS (stC s) (stR s) (verI (s.extract 0 8)) = s ∧ (0 ≤ verI (s.extract 0 8) ∧ verI (s.extract 0 8) ≤ 1) ∧ 100 ≤ stC s ∧ stC s ≤ 599 := by
  unfold stO stH at h
  simp only [Bool.and_eq_true, decide_eq_true_eq] at h
  obtain ⟨⟨⟨⟨h13, hv⟩, h8⟩, h12⟩, ⟨hX, hC⟩, _⟩ := h
  have h8 : byteI s 8 = 32 := eq_of_beq h8
  have h12 : byteI s 12 = 32 := eq_of_beq h12
  have hX : stX s = 0 := eq_of_beq hX
  obtain ⟨n1, n2, n3⟩ := num_zero hX
  have n2 : stC s = valV 10 (s.extract 9 12).data.toList := n2
  have hlen : s.data.toList.length = s.size := (Lib.size_eq s).symm
  have l3 : (s.extract 9 12).data.toList.length = 3 := by rw [ext_list, List.length_take, List.length_drop]; omega
  have hp := digs_three l3 n1 (by rw [← n2]; exact hC)
  have b8 := byteI_32 (show 8 < s.size by omega) h8
  have b12 := byteI_32 (show 12 < s.size by omega) h12
  have hlist : s.data.toList = (s.extract 0 8).data.toList ++ 32 :: ((s.extract 9 12).data.toList ++ 32 :: (s.extract 13 s.size).data.toList) := by
    rw [ext_list, ext_list, ext_list]
    generalize s.data.toList = l at *
    obtain ⟨g8, e8⟩ := List.getElem?_eq_some_iff.1 b8
    obtain ⟨g12, e12⟩ := List.getElem?_eq_some_iff.1 b12
    have d8 : l.drop 8 = 32 :: l.drop 9 := by rw [List.drop_eq_getElem_cons g8, e8]
    have d12 : l.drop 12 = 32 :: l.drop 13 := by rw [List.drop_eq_getElem_cons g12, e12]
    have d9 : l.drop 9 = (l.drop 9).take 3 ++ l.drop 12 := by
      have := (List.take_append_drop 3 (l.drop 9)).symm
      rwa [List.drop_drop] at this
    have d0 : l = l.take 8 ++ l.drop 8 := (List.take_append_drop 8 l).symm
    rw [List.drop_zero, Nat.sub_zero, show 12 - 9 = 3 by rfl, List.take_of_length_le (l := l.drop 13) (by rw [List.length_drop]; omega), ← d12, ← d9, ← d8]
    exact d0
  refine ⟨?_, ⟨hv, ver_le hv⟩, hC, by rw [n2]; exact n3⟩
  have hl : (pstS (stC s) (stR s) (verI (s.extract 0 8))).data.toList = s.data.toList := by
    rw [pst_list, ← ver_list hv, n2, hp]
    exact hlist.symm
  rw [mkS_eq hl, mkS_self]
theorem st_back {s : ByteArray} (h : stE s = 0) : pstS (stN s) (stB s) (stV' s) = s ∧ (0 ≤ stV' s ∧ stV' s ≤ 1) ∧ 100 ≤ stN s ∧ stN s ≤ 599 := by
  have hl : ¬ 8192 < s.size := fun hl => by rw [(st_long hl).2.2.2] at h; exact absurd h (by decide)
  have ho : stO s = true := by
    cases e : stO s with
    | true => rfl
    | false => rw [(st_no hl e).2.2.2] at h; exact absurd h (by decide)
  obtain ⟨e1, e2, e3, _⟩ := st_yes hl ho
  rw [e1, e2, e3]
  exact st_print ho
def fineT (c : Int) (r : ByteArray) : Bool := (decide (100 ≤ c) && decide (c ≤ 599)) && allB txtB r.data.toList
theorem code_three : ∀ n : Nat, n < 500 → (plainL ((n : Int) + 100)).length = 3 ∧ numE 10 18 599 (plainL ((n : Int) + 100)) = 0 ∧ numN 10 18 599 (plainL ((n : Int) + 100)) = (n : Int) + 100 := by decide +kernel
theorem st_trip {c : Int} {r : ByteArray} {v : Int} (h0 : 0 ≤ v) (h1 : v ≤ 1) (hr : r.size ≤ 1000) (hf : fineT c r = true) :
    stE (pstS c r v) = 0 ∧ stN (pstS c r v) = c ∧ stB (pstS c r v) = r ∧ stV' (pstS c r v) = v := by
  unfold fineT at hf
  simp only [Bool.and_eq_true, decide_eq_true_eq] at hf
  obtain ⟨⟨c0, c1⟩, hx⟩ := hf
  obtain ⟨k1, k2, k3⟩ := code_three (c - 100).toNat (by omega)
  rw [show (((c - 100).toNat : Nat) : Int) + 100 = c by omega] at k1 k2 k3
  have pl : (plainL v).length = 1 := by
    have : v = 0 ∨ v = 1 := by omega
    rcases this with rfl | rfl <;> decide +kernel
  have hvt := (ver_text h0 h1).2
  have hL := pst_list c r v
  generalize hC : plainL c = C at *
  generalize hV : plainL v = V at *
  match C, k1, V, pl with
  | [x, y, z], _, [d], _ =>
    have hsz : (pstS c r v).size = 13 + r.size := by
      rw [Lib.size_eq, hL, Lib.size_eq r]
      simp only [List.length_append, List.length_cons, List.length_nil]; omega
    have e08 : (pstS c r v).extract 0 8 = mkS ([72, 84, 84, 80, 47, 49, 46] ++ [d]) := mkS_eq (by rw [ext_list, hL]; rfl)
    have e912 : ((pstS c r v).extract 9 12).data.toList = [x, y, z] := by rw [ext_list, hL]; rfl
    have e13 : (pstS c r v).extract 13 (pstS c r v).size = r := by
      have : ((pstS c r v).extract 13 (pstS c r v).size).data.toList = r.data.toList := by
        rw [ext_list, hsz, hL]
        show List.take (13 + r.size - 13) r.data.toList = _
        rw [List.take_of_length_le (by rw [← Lib.size_eq]; omega)]
      rw [mkS_eq this, mkS_self]
    have b8 : byteI (pstS c r v) 8 = 32 := by unfold byteI; rw [hL]; rfl
    have b12 : byteI (pstS c r v) 12 = 32 := by unfold byteI; rw [hL]; rfl
    have hR : stR (pstS c r v) = r := e13
    have hCC : stC (pstS c r v) = c := by unfold stC; rw [e912]; exact k3
    have hXX : stX (pstS c r v) = 0 := by unfold stX; rw [e912]; exact k2
    have hO : stO (pstS c r v) = true := by
      unfold stO stH
      rw [hR, hCC, hXX, b8, b12, e08, hvt, hsz, hx, decide_eq_true (show 13 ≤ 13 + r.size by omega), decide_eq_true h0, decide_eq_true c0]; rfl
    obtain ⟨y1, y2, y3, y4⟩ := st_yes (s := pstS c r v) (by rw [hsz]; omega) hO
    exact ⟨y4, by rw [y1, hCC], by rw [y2, hR], by rw [y3, e08, hvt]⟩
theorem pst_size (c : Int) (r : ByteArray) (v : Int) (h0 : 0 ≤ v) (h1 : v ≤ 1) (g0 : -9223372036854775808 ≤ c) (g1 : c ≤ 9223372036854775807) : (pstS c r v).size ≤ 30 + r.size := by
  rw [Lib.size_eq, pst_list]
  have pl : (plainL v).length = 1 := by
    have : v = 0 ∨ v = 1 := by omega
    rcases this with rfl | rfl <;> decide +kernel
  have pc := plainL_short c g0 g1
  simp only [List.length_append, List.length_cons, List.length_nil, pl]
  rw [← Lib.size_eq]
  omega

end Go.Proofs.YtbmlldjkfpekkaaDoor
