/-
  Texts that the laws of this seat lean on, one behind the other.
-/
import Derived.WalkKit
import Derived.Lib.Bytealg
import Derived.Lib.Strings
import Derived.Lib.IndexBytes
/-
  Plain functions on bytes, without the program: which bytes a token, a value, a number may hold (P1.1), and small facts about them.
-/
section
namespace Go.Proofs.YtfmaaghmbnhikaaGreatDoor

def rng (lo hi c : Int) : Bool := decide (lo ≤ c) && decide (c ≤ hi)
def hasB (l : List UInt8) (c : Int) : Bool := l.any fun b => (b.toNat : Int) == c
def marks : List UInt8 := [33, 35, 36, 37, 38, 39, 42, 43, 45, 46, 94, 95, 96, 124, 126]
def tokB (c : Int) : Bool := rng 97 122 c || rng 65 90 c || rng 48 57 c || hasB marks c
def txtB (c : Int) : Bool := rng 9 9 c || rng 32 126 c || rng 128 255 c
def digB (c : Int) : Bool := rng 48 57 c
def hexB (c : Int) : Bool := rng 48 57 c || rng 97 102 c || rng 65 70 c
def hexN (c : Int) : Int := if rng 48 57 c then c - 48 else if rng 97 102 c then c - 87 else if rng 65 70 c then c - 55 else 0
def blkB (c : Int) : Bool := c == 32 || c == 9

theorem rng_true {lo hi c : Int} : rng lo hi c = true ↔ lo ≤ c ∧ c ≤ hi := by simp [rng]
theorem rng_false {lo hi c : Int} : rng lo hi c = false ↔ ¬ (lo ≤ c ∧ c ≤ hi) := by simp [rng]

/-- What holds of all 256 bytes holds of each byte. -/
theorem byte_all {α : Type} {p q : Int → α} (h : ∀ n : Nat, n < 256 → p n = q n) {c : Int} (h0 : 0 ≤ c) (h1 : c ≤ 255) : p c = q c := by
  have := h c.toNat (by omega)
  rwa [Int.toNat_of_nonneg h0] at this

theorem wf_byte {c : Int} (h : (Lit.int .u8 c).wf = true) : 0 ≤ c ∧ c ≤ 255 := by
  have hmin : IntKind.u8.min = 0 := rfl
  have hmax : IntKind.u8.max = 255 := rfl
  simp only [Lit.wf, Bool.and_eq_true, decide_eq_true_eq] at h
  omega

theorem byte_wf (b : UInt8) : (0 : Int) ≤ (b.toNat : Int) ∧ (b.toNat : Int) ≤ 255 := by
  have := b.toNat_lt
  omega

/-! ### Texts -/
def allB (p : Int → Bool) (l : List UInt8) : Bool := l.all fun b => p (b.toNat : Int)
theorem take_snoc (s : ByteArray) (k : Nat) (h : k < s.size) : s.data.toList.take (k + 1) = s.data.toList.take k ++ [s[k]] := by
  rw [List.take_succ_eq_append_getElem (by simpa using h)]; rfl
theorem allB_snoc (p : Int → Bool) (l : List UInt8) (c : UInt8) : allB p (l ++ [c]) = (allB p l && p (c.toNat : Int)) := by simp [allB]
theorem allB_take (p : Int → Bool) (s : ByteArray) (k : Nat) (h : k < s.size) : allB p (s.data.toList.take (k + 1)) = (allB p (s.data.toList.take k) && p (s[k].toNat : Int)) := by rw [take_snoc s k h, allB_snoc]
theorem allB_false (p : Int → Bool) (s : ByteArray) (k : Nat) (h : k < s.size) (hf : p (s[k].toNat : Int) = false) : allB p s.data.toList = false := by
  unfold allB
  rw [List.all_eq_false]
  exact ⟨s[k], by simp [ByteArray.getElem_eq_getElem_data], by simp [hf]⟩
theorem allB_full (p : Int → Bool) (s : ByteArray) (k : Nat) (h : s.size ≤ k) (hf : allB p (s.data.toList.take k) = true) : allB p s.data.toList = true := by
  rwa [List.take_of_length_le (by simpa using h)] at hf

end Go.Proofs.YtfmaaghmbnhikaaGreatDoor
end

/-
  Plain functions on texts, without the program: small letters, blanks off both ends, the two parts of a cut (P1.2, P1.3), and small facts about them.
-/
section
namespace Go.Proofs.YtfmaaghmbnhikaaGreatDoor

/-- A text out of its bytes. -/
def mkS (l : List UInt8) : ByteArray := ⟨l.toArray⟩
theorem mkS_list (l : List UInt8) : (mkS l).data.toList = l := rfl
theorem mkS_eq {s : ByteArray} {l : List UInt8} (h : s.data.toList = l) : s = mkS l := by
  subst h
  exact (Lib.mk_data s).symm
theorem mkS_inj {a b : List UInt8} (h : mkS a = mkS b) : a = b := by rw [← mkS_list a, ← mkS_list b, h]
theorem mkS_size (l : List UInt8) : (mkS l).size = l.length := by rw [Lib.size_eq, mkS_list]
theorem mkS_self (s : ByteArray) : mkS s.data.toList = s := (mkS_eq rfl).symm
theorem drop_at (s : ByteArray) (k : Nat) (h : k < s.size) : s.data.toList.drop k = s[k] :: s.data.toList.drop (k + 1) := by
  rw [List.drop_eq_getElem_cons (by rw [← Lib.size_eq]; exact h)]; rfl

/-! ### Blanks off both ends -/
def blkU (b : UInt8) : Bool := blkB (b.toNat : Int)
def rdw (l : List UInt8) : List UInt8 := (l.reverse.dropWhile blkU).reverse
def trimL (l : List UInt8) : List UInt8 := rdw (l.dropWhile blkU)

theorem dw_yes (s : ByteArray) (k : Nat) (h : k < s.size) (hb : blkB (s[k].toNat : Int) = true) : (s.data.toList.drop k).dropWhile blkU = (s.data.toList.drop (k + 1)).dropWhile blkU := by
  rw [drop_at s k h, List.dropWhile_cons_of_pos (show blkU _ = true from hb)]
theorem dw_no (s : ByteArray) (k : Nat) (h : k < s.size) (hb : blkB (s[k].toNat : Int) = false) : (s.data.toList.drop k).dropWhile blkU = s.data.toList.drop k := by
  rw [drop_at s k h, List.dropWhile_cons_of_neg (by unfold blkU; rw [hb]; decide)]
theorem dw_end (s : ByteArray) (k : Nat) (h : s.size ≤ k) : (s.data.toList.drop k).dropWhile blkU = s.data.toList.drop k := by
  rw [List.drop_eq_nil_of_le (by rw [← Lib.size_eq]; exact h)]; rfl
theorem rdw_nil : rdw [] = [] := rfl
theorem rdw_snoc_yes (l : List UInt8) (c : UInt8) (hb : blkB (c.toNat : Int) = true) : rdw (l ++ [c]) = rdw l := by
  unfold rdw; rw [List.reverse_append]; simp only [List.reverse_cons, List.reverse_nil, List.nil_append, List.cons_append]
  rw [List.dropWhile_cons_of_pos (show blkU _ = true from hb)]
theorem rdw_snoc_no (l : List UInt8) (c : UInt8) (hb : blkB (c.toNat : Int) = false) : rdw (l ++ [c]) = l ++ [c] := by
  unfold rdw; rw [List.reverse_append]; simp only [List.reverse_cons, List.reverse_nil, List.nil_append, List.cons_append]
  rw [List.dropWhile_cons_of_neg (by unfold blkU; rw [hb]; decide)]; simp

/-- The bytes of s from k to m. -/
def piece (s : ByteArray) (k m : Nat) : List UInt8 := (s.data.toList.drop k).take (m - k)
theorem piece_ext (s : ByteArray) (k m : Nat) : s.extract k m = mkS (piece s k m) := Lib.extract_eq s k m
theorem piece_all (s : ByteArray) (k : Nat) : piece s k s.size = s.data.toList.drop k := by
  unfold piece; rw [List.take_of_length_le]; rw [List.length_drop, ← Lib.size_eq]; exact Nat.le_refl _
theorem piece_none (s : ByteArray) (k : Nat) : piece s k k = [] := by unfold piece; simp
theorem piece_snoc (s : ByteArray) (k m : Nat) (h : k ≤ m) (hm : m < s.size) : piece s k (m + 1) = piece s k m ++ [s[m]] := by
  unfold piece
  rw [show m + 1 - k = (m - k) + 1 by omega, List.take_succ_eq_append_getElem (by rw [List.length_drop, ← Lib.size_eq]; omega)]
  congr 2
  rw [List.getElem_drop]
  simp only [show k + (m - k) = m by omega]; rfl

/-- Once the front is trimmed up to k. -/
theorem trim_front (s : ByteArray) (k : Nat) (h : s.data.toList.dropWhile blkU = s.data.toList.drop k) : trimL s.data.toList = rdw (piece s k s.size) := by
  unfold trimL; rw [h, piece_all]

/-- One blank off the front, off the end. -/
theorem dw_tail (t : ByteArray) (h : 0 < t.size) (hb : blkB (t[0].toNat : Int) = true) : (t.extract 1 t.size).data.toList.dropWhile blkU = t.data.toList.dropWhile blkU := by
  rw [Lib.extract_to_end]
  have := dw_yes t 0 h hb
  simpa using this.symm
theorem dw_keep (t : ByteArray) (h : 0 < t.size) (hb : blkB (t[0].toNat : Int) = false) : t.data.toList.dropWhile blkU = t.data.toList := by
  have := dw_no t 0 h hb
  simpa using this
theorem dw_empty (t : ByteArray) (h : t.size = 0) : t.data.toList.dropWhile blkU = t.data.toList := by
  have := dw_end t 0 (by omega)
  simpa using this
theorem list_snoc (t : ByteArray) (j : Nat) (h : t.size = j + 1) : t.data.toList = t.data.toList.take j ++ [t[j]'(by omega)] := by
  have := take_snoc t j (by omega)
  rwa [List.take_of_length_le (by rw [← Lib.size_eq]; omega)] at this
theorem rdw_tail (t : ByteArray) (j : Nat) (h : t.size = j + 1) (hb : blkB ((t[j]'(by omega)).toNat : Int) = true) : rdw (t.extract 0 j).data.toList = rdw t.data.toList := by
  rw [list_snoc t j h, rdw_snoc_yes _ _ hb, Lib.extract_data]
  simp
theorem rdw_keep (t : ByteArray) (j : Nat) (h : t.size = j + 1) (hb : blkB ((t[j]'(by omega)).toNat : Int) = false) : rdw t.data.toList = t.data.toList := by
  rw [list_snoc t j h, rdw_snoc_no _ _ hb]
theorem rdw_empty (t : ByteArray) (h : t.size = 0) : rdw t.data.toList = t.data.toList := by
  have : t.data.toList = [] := List.eq_nil_of_length_eq_zero (by rw [← Lib.size_eq]; exact h)
  rw [this]; rfl

/-! ### Small letters -/
def lowU (b : UInt8) : UInt8 := if 65 ≤ b.toNat ∧ b.toNat ≤ 90 then b + 32 else b
def lowL (l : List UInt8) : List UInt8 := l.map lowU

theorem lowU_yes (b : UInt8) (h : rng 65 90 (b.toNat : Int) = true) : ((lowU b).toNat : Int) = (b.toNat : Int) + 32 := by
  rw [rng_true] at h
  unfold lowU
  rw [if_pos (by omega), UInt8.toNat_add]
  have : (32 : UInt8).toNat = 32 := rfl
  omega
theorem lowU_no (b : UInt8) (h : rng 65 90 (b.toNat : Int) = false) : lowU b = b := by
  rw [rng_false] at h
  unfold lowU
  rw [if_neg (by omega)]
/-- The bytes of which the first k are made small. -/
def lowK (l : List UInt8) (k : Nat) : List UInt8 := lowL (l.take k) ++ l.drop k
theorem lowK_zero (l : List UInt8) : lowK l 0 = l := by simp [lowK, lowL]
theorem lowK_full (l : List UInt8) (k : Nat) (h : l.length ≤ k) : lowK l k = lowL l := by simp [lowK, List.take_of_length_le h, List.drop_eq_nil_of_le h]
theorem lowK_len (l : List UInt8) (k : Nat) : (lowK l k).length = l.length := by simp [lowK, lowL]; omega
theorem lowL_len (l : List UInt8) : (lowL l).length = l.length := by simp [lowL]
theorem lowK_at (s : ByteArray) (k : Nat) (h : k < s.size) : (lowK s.data.toList k)[k]? = some s[k] := by
  have hl : s.size = s.data.toList.length := Lib.size_eq s
  have h1 : (lowL (s.data.toList.take k)).length = k := by rw [lowL_len, List.length_take]; omega
  unfold lowK
  rw [List.getElem?_append_right (by omega), h1, Nat.sub_self, drop_at s k h]; rfl
theorem lowK_succ (s : ByteArray) (k : Nat) (h : k < s.size) : lowK s.data.toList (k + 1) = (lowK s.data.toList k).set k (lowU s[k]) := by
  have hl : s.size = s.data.toList.length := Lib.size_eq s
  have h1 : (lowL (s.data.toList.take k)).length = k := by rw [lowL_len, List.length_take]; omega
  unfold lowK
  rw [take_snoc s k h, List.set_append_right _ _ (by omega), h1, Nat.sub_self, drop_at s k h]
  simp [lowL]
theorem lowK_same (s : ByteArray) (k : Nat) (h : k < s.size) (hb : lowU s[k] = s[k]) : lowK s.data.toList (k + 1) = lowK s.data.toList k := by
  have hl : s.size = s.data.toList.length := Lib.size_eq s
  have hk := lowK_at s k h
  rw [lowK_succ s k h, hb]
  rw [List.getElem?_eq_some_iff] at hk
  obtain ⟨a, b⟩ := hk
  have := List.set_getElem_self a
  rw [b] at this
  exact this

def sameB (a b : ByteArray) : Bool := lowL a.data.toList == lowL b.data.toList
theorem same_list (a b : List UInt8) : ((mkS a).toList == (mkS b).toList) = (a == b) := by rw [Lib.toList_data, Lib.toList_data, mkS_list, mkS_list]
theorem same_len {a b : ByteArray} (h : sameB a b = true) : a.size = b.size := by
  unfold sameB at h
  have := congrArg List.length (beq_iff_eq.1 h)
  rw [lowL_len, lowL_len] at this
  rw [Lib.size_eq, Lib.size_eq, this]

theorem lowU_twice (b : UInt8) : lowU (lowU b) = lowU b := by
  by_cases h : rng 65 90 (b.toNat : Int) = true
  · refine lowU_no _ ?_
    have h1 := lowU_yes b h
    rw [rng_true] at h
    rw [rng_false, h1]
    omega
  · rw [lowU_no b (by simpa using h)]
    exact lowU_no b (by simpa using h)
theorem lowL_twice (l : List UInt8) : lowL (lowL l) = lowL l := by simp [lowL, lowU_twice]
theorem low_twice (s : ByteArray) : mkS (lowL (mkS (lowL s.data.toList)).data.toList) = mkS (lowL s.data.toList) := by rw [mkS_list, lowL_twice]
theorem low_size (s : ByteArray) : (mkS (lowL s.data.toList)).size = s.size := by rw [mkS_size, lowL_len, ← Lib.size_eq]
theorem same_low (s : ByteArray) : sameB s (mkS (lowL s.data.toList)) = true := by unfold sameB; rw [mkS_list, lowL_twice]; simp
theorem same_symm (a b : ByteArray) : sameB b a = sameB a b := by unfold sameB; exact BEq.comm
theorem tok_low (b : UInt8) : tokB ((lowU b).toNat : Int) = tokB (b.toNat : Int) := by
  have h : ∀ n : Nat, n < 256 → tokB ((lowU n.toUInt8).toNat : Int) = tokB (n.toUInt8.toNat : Int) := by decide +kernel
  have := h b.toNat b.toNat_lt
  simpa using this
theorem allTok_low (s : ByteArray) : (!(mkS (lowL s.data.toList)).toList.isEmpty && allB tokB (mkS (lowL s.data.toList)).data.toList) = (!s.toList.isEmpty && allB tokB s.data.toList) := by
  rw [Lib.toList_data, Lib.toList_data, mkS_list]
  generalize s.data.toList = l
  congr 1
  · simp [lowL]
  · unfold allB lowL
    rw [List.all_map]
    congr 1
    funext b
    exact tok_low b

/-! ### The two parts of a cut -/
def idxOf (s : ByteArray) (c : Int) : Int := Lib.indexByte s.data.toList c.toNat.toUInt8
theorem idx_cases (s : ByteArray) (c : Int) (h0 : 0 ≤ c) (h1 : c ≤ 255) :
    (idxOf s c = -1 ∧ ∀ (k : Nat) (h : k < s.size), (s[k].toNat : Int) ≠ c) ∨
    ∃ i : Nat, idxOf s c = i ∧ ∃ h : i < s.size, (s[i].toNat : Int) = c ∧ ∀ (k : Nat) (hk : k < i), (s[k].toNat : Int) ≠ c := by
  have hc : (c.toNat.toUInt8.toNat : Int) = c := by
    rw [UInt8.toNat_ofNat']
    omega
  have hge := Lib.indexByte_ge s.data.toList c.toNat.toUInt8
  by_cases h : idxOf s c = -1
  · refine .inl ⟨h, fun k hk e => ?_⟩
    refine Lib.indexByte_none h k ?_
    rw [Lib.data_getElem? s k hk, Option.some.injEq, ← UInt8.toNat_inj]
    omega
  · have hge' : -1 ≤ idxOf s c := hge
    obtain ⟨i, hi⟩ : ∃ i : Nat, idxOf s c = i := ⟨(idxOf s c).toNat, by omega⟩
    obtain ⟨a, b⟩ := Lib.indexByte_some hi
    have hlt : i < s.size := by
      rw [Lib.size_eq]
      exact (List.getElem?_eq_some_iff.1 a).1
    refine .inr ⟨i, hi, hlt, ?_, fun k hk e => ?_⟩
    · rw [Lib.data_getElem? s i hlt, Option.some.injEq, ← UInt8.toNat_inj] at a
      omega
    · refine b k hk ?_
      rw [Lib.data_getElem? s k (by omega), Option.some.injEq, ← UInt8.toNat_inj]
      omega
theorem idx_first (s : ByteArray) (c : Int) (h0 : 0 ≤ c) (h1 : c ≤ 255) (i : Nat) (h : i < s.size) (he : (s[i].toNat : Int) = c) (hn : ∀ (k : Nat) (hk : k < i), (s[k].toNat : Int) ≠ c) : idxOf s c = i := by
  rcases idx_cases s c h0 h1 with ⟨_, b⟩ | ⟨j, hj, hlt, e, b⟩
  · exact absurd he (b i h)
  · have : ¬ i < j := fun hh => b i hh he
    have : ¬ j < i := fun hh => hn j hh e
    rw [hj]; congr 1; omega
theorem idx_none (s : ByteArray) (c : Int) (h0 : 0 ≤ c) (h1 : c ≤ 255) (hn : ∀ (k : Nat) (h : k < s.size), (s[k].toNat : Int) ≠ c) : idxOf s c = -1 := by
  rcases idx_cases s c h0 h1 with ⟨a, _⟩ | ⟨j, _, hlt, e, _⟩
  · exact a
  · exact absurd e (hn j hlt)

def cutA (s : ByteArray) (c : Int) : ByteArray := if idxOf s c = -1 then s else s.extract 0 (idxOf s c).toNat
def cutZ (s : ByteArray) (c : Int) : ByteArray := if idxOf s c = -1 then ⟨#[]⟩ else s.extract ((idxOf s c).toNat + 1) s.size
def cutOk (s : ByteArray) (c : Int) : Bool := !(idxOf s c == -1)
theorem cut_miss {s : ByteArray} {c : Int} (h : idxOf s c = -1) : cutA s c = s ∧ cutZ s c = ⟨#[]⟩ ∧ cutOk s c = false := by simp [cutA, cutZ, cutOk, h]
theorem cut_hit {s : ByteArray} {c : Int} {i : Nat} (h : idxOf s c = i) : cutA s c = s.extract 0 i ∧ cutZ s c = s.extract (i + 1) s.size ∧ cutOk s c = true := by
  simp [cutA, cutZ, cutOk, h]

end Go.Proofs.YtfmaaghmbnhikaaGreatDoor
end

/-
  Plain facts on trimmed texts, without the program: a trimmed text has no blank at its ends, and blanks added to it are taken off again (P1.4).
-/
section
namespace Go.Proofs.YtfmaaghmbnhikaaGreatDoor

/-- No blank stands at an end. -/
structure Edge (l : List UInt8) : Prop where
  front : l.dropWhile blkU = l
  back : rdw l = l

theorem rdw_idem (l : List UInt8) : rdw (rdw l) = rdw l := by
  unfold rdw
  rw [List.reverse_reverse]
  congr 1
  induction l.reverse with
  | nil => rfl
  | cons a r ih =>
    by_cases h : blkU a = true
    · rw [List.dropWhile_cons_of_pos h]; exact ih
    · rw [List.dropWhile_cons_of_neg h, List.dropWhile_cons_of_neg h]

theorem rdw_prefix (l : List UInt8) : rdw l <+: l := by
  unfold rdw
  have := List.dropWhile_suffix blkU (l := l.reverse)
  have h2 := List.reverse_prefix.2 this
  rwa [List.reverse_reverse] at h2

theorem dw_head {l : List UInt8} (h : l.dropWhile blkU = l) : l = [] ∨ ∃ a r, l = a :: r ∧ blkU a = false := by
  cases l with
  | nil => exact .inl rfl
  | cons a r =>
    refine .inr ⟨a, r, rfl, ?_⟩
    cases hb : blkU a with
    | false => rfl
    | true =>
      rw [List.dropWhile_cons_of_pos hb] at h
      have := congrArg List.length h
      have h2 := (List.dropWhile_suffix blkU (l := r)).length_le
      simp at this
      omega

theorem dw_of_head {l : List UInt8} (h : l = [] ∨ ∃ a r, l = a :: r ∧ blkU a = false) : l.dropWhile blkU = l := by
  rcases h with rfl | ⟨a, r, rfl, h⟩
  · rfl
  · exact List.dropWhile_cons_of_neg (by rw [h]; decide)

theorem dw_idem (l : List UInt8) : (l.dropWhile blkU).dropWhile blkU = l.dropWhile blkU := by
  induction l with
  | nil => rfl
  | cons a r ih =>
    by_cases h : blkU a = true
    · rw [List.dropWhile_cons_of_pos h]; exact ih
    · rw [List.dropWhile_cons_of_neg h, List.dropWhile_cons_of_neg h]

theorem trim_edge (l : List UInt8) : Edge (trimL l) := by
  refine ⟨?_, rdw_idem _⟩
  unfold trimL
  have hp := rdw_prefix (l.dropWhile blkU)
  apply dw_of_head
  rcases dw_head (dw_idem l) with h | ⟨a, r, h, hb⟩
  · rw [h]; exact .inl rfl
  · obtain ⟨z, hz⟩ := hp
    cases hr : rdw (l.dropWhile blkU) with
    | nil => exact .inl rfl
    | cons b s =>
      rw [hr, h] at hz
      injection hz with h1 h2
      subst h1
      exact .inr ⟨b, s, rfl, hb⟩

theorem trim_of_edge {l : List UInt8} (h : Edge l) : trimL l = l := by
  unfold trimL
  rw [h.front, h.back]

theorem dw_pad (k : Nat) (l : List UInt8) : (List.replicate k 32 ++ l).dropWhile blkU = l.dropWhile blkU := by
  induction k with
  | zero => rfl
  | succ k ih => rw [List.replicate_succ, List.cons_append, List.dropWhile_cons_of_pos (by decide), ih]

theorem rdw_pad (j : Nat) (l : List UInt8) : rdw (l ++ List.replicate j 9) = rdw l := by
  unfold rdw
  rw [List.reverse_append, List.reverse_replicate]
  congr 1
  induction j with
  | zero => rfl
  | succ j ih => rw [List.replicate_succ, List.cons_append, List.dropWhile_cons_of_pos (by decide), ih]

theorem trim_pad {l : List UInt8} (h : Edge l) (k j : Nat) : trimL (List.replicate k 32 ++ l ++ List.replicate j 9) = l := by
  unfold trimL
  rw [List.append_assoc, dw_pad]
  rcases dw_head h.front with e | ⟨a, r, e, hb⟩
  · subst e
    have : (([] : List UInt8) ++ List.replicate j 9).dropWhile blkU = [] := by
      rw [List.nil_append]
      induction j with
      | zero => rfl
      | succ j ih => rw [List.replicate_succ, List.dropWhile_cons_of_pos (by decide), ih]
    rw [this]; rfl
  · rw [dw_of_head (.inr ⟨a, r ++ List.replicate j 9, by rw [e]; rfl, hb⟩), rdw_pad, h.back]

/-- The first and the last byte of such a text are no blanks. -/
theorem edge_first {t : ByteArray} (h : Edge t.data.toList) (h0 : 0 < t.size) : blkB (t[0].toNat : Int) = false := by
  cases hb : blkB (t[0].toNat : Int) with
  | false => rfl
  | true =>
    have h1 := dw_yes t 0 h0 hb
    have h2 := h.front
    rw [List.drop_zero] at h1
    rw [h2] at h1
    have h3 := congrArg List.length h1
    have h4 := (List.dropWhile_suffix blkU (l := t.data.toList.drop (0 + 1))).length_le
    rw [List.length_drop, ← Lib.size_eq] at h4
    rw [← Lib.size_eq] at h3
    omega
theorem edge_last {t : ByteArray} (h : Edge t.data.toList) (j : Nat) (hj : t.size = j + 1) : blkB ((t[j]'(by omega)).toNat : Int) = false := by
  cases hb : blkB ((t[j]'(by omega)).toNat : Int) with
  | false => rfl
  | true =>
    have h1 := rdw_tail t j hj hb
    rw [h.back] at h1
    have h3 := congrArg List.length h1
    have h4 := (rdw_prefix (t.extract 0 j).data.toList).length_le
    have h5 : (t.extract 0 j).data.toList.length ≤ j := by rw [Lib.extract_data, List.length_take]; omega
    have h6 := Lib.size_eq t
    omega
theorem not_blank {c : Int} (h : blkB c = false) : (c == 32) = false ∧ (c == 9) = false := by
  unfold blkB at h
  simpa using h

theorem pre_list (b : UInt8) (x : ByteArray) : ((⟨#[b]⟩ : ByteArray) ++ x).data.toList = b :: x.data.toList := by simp
theorem post_list (b : UInt8) (x : ByteArray) : (x ++ (⟨#[b]⟩ : ByteArray)).data.toList = x.data.toList ++ [b] := by simp
theorem pre_size (b : UInt8) (x : ByteArray) : ((⟨#[b]⟩ : ByteArray) ++ x).size = x.size + 1 := by rw [Lib.size_eq, pre_list, List.length_cons, ← Lib.size_eq]
theorem post_size (b : UInt8) (x : ByteArray) : (x ++ (⟨#[b]⟩ : ByteArray)).size = x.size + 1 := by rw [Lib.size_eq, post_list, List.length_append, ← Lib.size_eq]; rfl

/-- The parts of a text, and the byte between them, form it. -/
theorem cut_joins (s : ByteArray) (i : Nat) (h : i < s.size) : s.extract 0 i ++ (⟨#[s[i]]⟩ : ByteArray) ++ s.extract (i + 1) s.size = s := by
  have : (s.extract 0 i ++ (⟨#[s[i]]⟩ : ByteArray) ++ s.extract (i + 1) s.size).data.toList = s.data.toList := by
    have e1 : (s.extract 0 i).data.toList = s.data.toList.take i := by rw [Lib.extract_data]; simp
    have e2 := Lib.extract_to_end s (i + 1)
    rw [ByteArray.data_append, ByteArray.data_append, Array.toList_append, Array.toList_append, e1, e2]
    show s.data.toList.take i ++ [s[i]] ++ s.data.toList.drop (i + 1) = s.data.toList
    rw [← take_snoc s i h, List.take_append_drop]
  rw [mkS_eq this, mkS_self]

theorem tmod9 (a : Int) : -8 ≤ a.tmod 9 ∧ a.tmod 9 ≤ 8 := by
  by_cases h : 0 ≤ a
  · rw [Int.tmod_eq_emod_of_nonneg h]; omega
  · obtain ⟨b, rfl⟩ : ∃ b, a = -b := ⟨-a, by omega⟩
    rw [Int.neg_tmod, Int.tmod_eq_emod_of_nonneg (by omega)]; omega

end Go.Proofs.YtfmaaghmbnhikaaGreatDoor
end
