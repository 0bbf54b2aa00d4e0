/-
  Texts that the laws of this seat lean on, one behind the other.
-/
import Derived.Test.YtmkjjidilfhojaaDoorMrgA
import Derived.Lib.Strings
import Derived.Lib.IndexBytes
/-
  Plain functions on texts, without the program: small letters, blanks off both ends, the two parts of a cut (P1.2, P1.3), and small facts about them.
-/
section
namespace Go.Proofs.YtmkjjidilfhojaaDoor

/-- A text out of its bytes. -/
def mkS (l : List UInt8) : ByteArray := ⟨l.toArray⟩
theorem mkS_list (l : List UInt8) : (mkS l).data.toList = l := rfl
theorem mkS_eq {s : ByteArray} {l : List UInt8} (h : s.data.toList = l) : s = mkS l := by
  subst h
  exact (Lib.mk_data s).symm
theorem mkS_inj {a b : List UInt8} (h : mkS a = mkS b) : a = b := by rw [← mkS_list a, ← mkS_list b, h]
theorem mkS_size (l : List UInt8) : (mkS l).size = l.length := by rw [Lib.size_eq, mkS_list]
theorem mkS_self (s : ByteArray) : mkS s.data.toList = s := (mkS_eq rfl).symm
theorem drop_at (s : ByteArray) (k : Nat) (h : k < s.size) : s.data.toList.drop k = s[k] :: s.data.toList.drop (k + 1) := by
  rw [List.drop_eq_getElem_cons (by rw [← Lib.size_eq]; exact h)]; rfl

/-! ### Blanks off both ends -/
def blkU (b : UInt8) : Bool := blkB (b.toNat : Int)
def rdw (l : List UInt8) : List UInt8 := (l.reverse.dropWhile blkU).reverse
def trimL (l : List UInt8) : List UInt8 := rdw (l.dropWhile blkU)

theorem dw_yes (s : ByteArray) (k : Nat) (h : k < s.size) (hb : blkB (s[k].toNat : Int) = true) : (s.data.toList.drop k).dropWhile blkU = (s.data.toList.drop (k + 1)).dropWhile blkU := by
  rw [drop_at s k h, List.dropWhile_cons_of_pos (show blkU _ = true from hb)]
theorem dw_no (s : ByteArray) (k : Nat) (h : k < s.size) (hb : blkB (s[k].toNat : Int) = false) : (s.data.toList.drop k).dropWhile blkU = s.data.toList.drop k := by
  rw [drop_at s k h, List.dropWhile_cons_of_neg (by unfold blkU; rw [hb]; decide)]
theorem dw_end (s : ByteArray) (k : Nat) (h : s.size ≤ k) : (s.data.toList.drop k).dropWhile blkU = s.data.toList.drop k := by
  rw [List.drop_eq_nil_of_le (by rw [← Lib.size_eq]; exact h)]; rfl
theorem rdw_nil : rdw [] = [] := rfl
theorem rdw_snoc_yes (l : List UInt8) (c : UInt8) (hb : blkB (c.toNat : Int) = true) : rdw (l ++ [c]) = rdw l := by
  unfold rdw; rw [List.reverse_append]; simp only [List.reverse_cons, List.reverse_nil, List.nil_append, List.cons_append]
  rw [List.dropWhile_cons_of_pos (show blkU _ = true from hb)]
theorem rdw_snoc_no (l : List UInt8) (c : UInt8) (hb : blkB (c.toNat : Int) = false) : rdw (l ++ [c]) = l ++ [c] := by
  unfold rdw; rw [List.reverse_append]; simp only [List.reverse_cons, List.reverse_nil, List.nil_append, List.cons_append]
  rw [List.dropWhile_cons_of_neg (by unfold blkU; rw [hb]; decide)]; simp

/-- The bytes of s from k to m. -/
def piece (s : ByteArray) (k m : Nat) : List UInt8 := (s.data.toList.drop k).take (m - k)
theorem piece_ext (s : ByteArray) (k m : Nat) : s.extract k m = mkS (piece s k m) := Lib.extract_eq s k m
theorem piece_all (s : ByteArray) (k : Nat) : piece s k s.size = s.data.toList.drop k := by
  unfold piece; rw [List.take_of_length_le]; rw [List.length_drop, ← Lib.size_eq]; exact Nat.le_refl _
theorem piece_none (s : ByteArray) (k : Nat) : piece s k k = [] := by unfold piece; simp
theorem piece_snoc (s : ByteArray) (k m : Nat) (h : k ≤ m) (hm : m < s.size) : piece s k (m + 1) = piece s k m ++ [s[m]] := by
  unfold piece
  rw [show m + 1 - k = (m - k) + 1 by omega, List.take_succ_eq_append_getElem (by rw [List.length_drop, ← Lib.size_eq]; omega)]
  congr 2
  rw [List.getElem_drop]
  simp only [show k + (m - k) = m by omega]; rfl

/-- Once the front is trimmed up to k. -/
theorem trim_front (s : ByteArray) (k : Nat) (h : s.data.toList.dropWhile blkU = s.data.toList.drop k) : trimL s.data.toList = rdw (piece s k s.size) := by
  unfold trimL; rw [h, piece_all]

/-- One blank off the front, off the end. -/
theorem dw_tail (t : ByteArray) (h : 0 < t.size) (hb : blkB (t[0].toNat : Int) = true) : (t.extract 1 t.size).data.toList.dropWhile blkU = t.data.toList.dropWhile blkU := by
  rw [Lib.extract_to_end]
  have := dw_yes t 0 h hb
  simpa using this.symm
theorem dw_keep (t : ByteArray) (h : 0 < t.size) (hb : blkB (t[0].toNat : Int) = false) : t.data.toList.dropWhile blkU = t.data.toList := by
  have := dw_no t 0 h hb
  simpa using this
theorem dw_empty (t : ByteArray) (h : t.size = 0) : t.data.toList.dropWhile blkU = t.data.toList := by
  have := dw_end t 0 (by omega)
  simpa using this
theorem list_snoc (t : ByteArray) (j : Nat) (h : t.size = j + 1) : t.data.toList = t.data.toList.take j ++ [t[j]'(by omega)] := by
  have := take_snoc t j (by omega)
  rwa [List.take_of_length_le (by rw [← Lib.size_eq]; omega)] at this
theorem rdw_tail (t : ByteArray) (j : Nat) (h : t.size = j + 1) (hb : blkB ((t[j]'(by omega)).toNat : Int) = true) : rdw (t.extract 0 j).data.toList = rdw t.data.toList := by
  rw [list_snoc t j h, rdw_snoc_yes _ _ hb, Lib.extract_data]
  simp
theorem rdw_keep (t : ByteArray) (j : Nat) (h : t.size = j + 1) (hb : blkB ((t[j]'(by omega)).toNat : Int) = false) : rdw t.data.toList = t.data.toList := by
  rw [list_snoc t j h, rdw_snoc_no _ _ hb]
theorem rdw_empty (t : ByteArray) (h : t.size = 0) : rdw t.data.toList = t.data.toList := by
  have : t.data.toList = [] := List.eq_nil_of_length_eq_zero (by rw [← Lib.size_eq]; exact h)
  rw [this]; rfl

/-! ### Small letters -/
def lowU (b : UInt8) : UInt8 := if 65 ≤ b.toNat ∧ b.toNat ≤ 90 then b + 32 else b
def lowL (l : List UInt8) : List UInt8 := l.map lowU

theorem lowU_yes (b : UInt8) (h : rng 65 90 (b.toNat : Int) = true) : ((lowU b).toNat : Int) = (b.toNat : Int) + 32 := by
  rw [rng_true] at h
  unfold lowU
  rw [if_pos (by omega), UInt8.toNat_add]
  have : (32 : UInt8).toNat = 32 := rfl
  omega
theorem lowU_no (b : UInt8) (h : rng 65 90 (b.toNat : Int) = false) : lowU b = b := by
  rw [rng_false] at h
  unfold lowU
  rw [if_neg (by omega)]
/-- The bytes of which the first k are made small. -/
def lowK (l : List UInt8) (k : Nat) : List UInt8 := lowL (l.take k) ++ l.drop k
theorem lowK_zero (l : List UInt8) : lowK l 0 = l := by simp [lowK, lowL]
theorem lowK_full (l : List UInt8) (k : Nat) (h : l.length ≤ k) : lowK l k = lowL l := by simp [lowK, List.take_of_length_le h, List.drop_eq_nil_of_le h]
theorem lowK_len (l : List UInt8) (k : Nat) : (lowK l k).length = l.length := by simp [lowK, lowL]; omega
theorem lowL_len (l : List UInt8) : (lowL l).length = l.length := by simp [lowL]
theorem lowK_at (s : ByteArray) (k : Nat) (h : k < s.size) : (lowK s.data.toList k)[k]? = some s[k] := by
  have hl : s.size = s.data.toList.length := Lib.size_eq s
  have h1 : (lowL (s.data.toList.take k)).length = k := by rw [lowL_len, List.length_take]; omega
  unfold lowK
  rw [List.getElem?_append_right (by omega), h1, Nat.sub_self, drop_at s k h]; rfl
theorem lowK_succ (s : ByteArray) (k : Nat) (h : k < s.size) : lowK s.data.toList (k + 1) = (lowK s.data.toList k).set k (lowU s[k]) := by
  have hl : s.size = s.data.toList.length := Lib.size_eq s
  have h1 : (lowL (s.data.toList.take k)).length = k := by rw [lowL_len, List.length_take]; omega
  unfold lowK
  rw [take_snoc s k h, List.set_append_right _ _ (by omega), h1, Nat.sub_self, drop_at s k h]
  simp [lowL]
theorem lowK_same (s : ByteArray) (k : Nat) (h : k < s.size) (hb : lowU s[k] = s[k]) : lowK s.data.toList (k + 1) = lowK s.data.toList k := by
  have hl : s.size = s.data.toList.length := Lib.size_eq s
  have hk := lowK_at s k h
  rw [lowK_succ s k h, hb]
  rw [List.getElem?_eq_some_iff] at hk
  obtain ⟨a, b⟩ := hk
  have := List.set_getElem_self a
  rw [b] at this
  exact this

def sameB (a b : ByteArray) : Bool := lowL a.data.toList == lowL b.data.toList
theorem same_list (a b : List UInt8) : ((mkS a).toList == (mkS b).toList) = (a == b) := by rw [Lib.toList_data, Lib.toList_data, mkS_list, mkS_list]
theorem same_len {a b : ByteArray} (h : sameB a b = true) : a.size = b.size := by
  unfold sameB at h
  have := congrArg List.length (beq_iff_eq.1 h)
  rw [lowL_len, lowL_len] at this
  rw [Lib.size_eq, Lib.size_eq, this]

theorem lowU_twice (b : UInt8) : lowU (lowU b) = lowU b := by
  by_cases h : rng 65 90 (b.toNat : Int) = true
  · refine lowU_no _ ?_
    have h1 := lowU_yes b h
    rw [rng_true] at h
    rw [rng_false, h1]
    omega
  · rw [lowU_no b (by simpa using h)]
    exact lowU_no b (by simpa using h)
theorem lowL_twice (l : List UInt8) : lowL (lowL l) = lowL l := by simp [lowL, lowU_twice]
theorem low_twice (s : ByteArray) : mkS (lowL (mkS (lowL s.data.toList)).data.toList) = mkS (lowL s.data.toList) := by rw [mkS_list, lowL_twice]
theorem low_size (s : ByteArray) : (mkS (lowL s.data.toList)).size = s.size := by rw [mkS_size, lowL_len, ← Lib.size_eq]
theorem same_low (s : ByteArray) : sameB s (mkS (lowL s.data.toList)) = true := by unfold sameB; rw [mkS_list, lowL_twice]; simp
theorem same_symm (a b : ByteArray) : sameB b a = sameB a b := by unfold sameB; exact BEq.comm
theorem tok_low (b : UInt8) : tokB ((lowU b).toNat : Int) = tokB (b.toNat : Int) := by
  have h : ∀ n : Nat, n < 256 → tokB ((lowU n.toUInt8).toNat : Int) = tokB (n.toUInt8.toNat : Int) := by decide +kernel
  have := h b.toNat b.toNat_lt
  simpa using this
theorem allTok_low (s : ByteArray) : (!(mkS (lowL s.data.toList)).toList.isEmpty && allB tokB (mkS (lowL s.data.toList)).data.toList) = (!s.toList.isEmpty && allB tokB s.data.toList) := by
  rw [Lib.toList_data, Lib.toList_data, mkS_list]
  generalize s.data.toList = l
  congr 1
  · simp [lowL]
  · unfold allB lowL
    rw [List.all_map]
    congr 1
    funext b
    exact tok_low b

/-! ### The two parts of a cut -/
def idxOf (s : ByteArray) (c : Int) : Int := Lib.indexByte s.data.toList c.toNat.toUInt8
theorem idx_cases (s : ByteArray) (c : Int) (h0 : 0 ≤ c) (h1 : c ≤ 255) :
    (idxOf s c = -1 ∧ ∀ (k : Nat) (h : k < s.size), (s[k].toNat : Int) ≠ c) ∨
    ∃ i : Nat, idxOf s c = i ∧ ∃ h : i < s.size, (s[i].toNat : Int) = c ∧ ∀ (k : Nat) (hk : k < i), (s[k].toNat : Int) ≠ c := by
  have hc : (c.toNat.toUInt8.toNat : Int) = c := by
    rw [UInt8.toNat_ofNat']
    omega
  have hge := Lib.indexByte_ge s.data.toList c.toNat.toUInt8
  by_cases h : idxOf s c = -1
  · refine .inl ⟨h, fun k hk e => ?_⟩
    refine Lib.indexByte_none h k ?_
    rw [Lib.data_getElem? s k hk, Option.some.injEq, ← UInt8.toNat_inj]
    omega
  · have hge' : -1 ≤ idxOf s c := hge
    obtain ⟨i, hi⟩ : ∃ i : Nat, idxOf s c = i := ⟨(idxOf s c).toNat, by omega⟩
    obtain ⟨a, b⟩ := Lib.indexByte_some hi
    have hlt : i < s.size := by
      rw [Lib.size_eq]
      exact (List.getElem?_eq_some_iff.1 a).1
    refine .inr ⟨i, hi, hlt, ?_, fun k hk e => ?_⟩
    · rw [Lib.data_getElem? s i hlt, Option.some.injEq, ← UInt8.toNat_inj] at a
      omega
    · refine b k hk ?_
      rw [Lib.data_getElem? s k (by omega), Option.some.injEq, ← UInt8.toNat_inj]
      omega
theorem idx_first (s : ByteArray) (c : Int) (h0 : 0 ≤ c) (h1 : c ≤ 255) (i : Nat) (h : i < s.size) (he : (s[i].toNat : Int) = c) (hn : ∀ (k : Nat) (hk : k < i), (s[k].toNat : Int) ≠ c) : idxOf s c = i := by
  rcases idx_cases s c h0 h1 with ⟨_, b⟩ | ⟨j, hj, hlt, e, b⟩
  · exact absurd he (b i h)
  · have : ¬ i < j := fun hh => b i hh he
    have : ¬ j < i := fun hh => hn j hh e
    rw [hj]; congr 1; omega
theorem idx_none (s : ByteArray) (c : Int) (h0 : 0 ≤ c) (h1 : c ≤ 255) (hn : ∀ (k : Nat) (h : k < s.size), (s[k].toNat : Int) ≠ c) : idxOf s c = -1 := by
  rcases idx_cases s c h0 h1 with ⟨a, _⟩ | ⟨j, _, hlt, e, _⟩
  · exact a
  · exact absurd e (hn j hlt)

def cutA (s : ByteArray) (c : Int) : ByteArray := if idxOf s c = -1 then s else s.extract 0 (idxOf s c).toNat
def cutZ (s : ByteArray) (c : Int) : ByteArray := if idxOf s c = -1 then ⟨#[]⟩ else s.extract ((idxOf s c).toNat + 1) s.size
def cutOk (s : ByteArray) (c : Int) : Bool := !(idxOf s c == -1)
theorem cut_miss {s : ByteArray} {c : Int} (h : idxOf s c = -1) : cutA s c = s ∧ cutZ s c = ⟨#[]⟩ ∧ cutOk s c = false := by simp [cutA, cutZ, cutOk, h]
theorem cut_hit {s : ByteArray} {c : Int} {i : Nat} (h : idxOf s c = i) : cutA s c = s.extract 0 i ∧ cutZ s c = s.extract (i + 1) s.size ∧ cutOk s c = true := by
  simp [cutA, cutZ, cutOk, h]

end Go.Proofs.YtmkjjidilfhojaaDoor
end
