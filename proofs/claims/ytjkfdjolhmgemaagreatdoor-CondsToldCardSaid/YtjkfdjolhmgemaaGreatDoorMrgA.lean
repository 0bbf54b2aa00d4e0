/-
  Texts that the laws of this seat lean on, one behind the other.
-/
import Derived.WalkKit
import Derived.Lib.Bytealg
import Derived.Lib.Strings
import Derived.Lib.IndexBytes
import Derived.Lib.ItoaNum
set_option linter.unusedSimpArgs false
set_option linter.unusedVariables false
/-
  Plain functions on bytes, without the program: which bytes a token, a value, a number may hold (P1.1), and small facts about them.
-/
section
namespace Go.Proofs.YtjkfdjolhmgemaaGreatDoor

def rng (lo hi c : Int) : Bool := decide (lo ≤ c) && decide (c ≤ hi)
def hasB (l : List UInt8) (c : Int) : Bool := l.any fun b => (b.toNat : Int) == c
def marks : List UInt8 := [33, 35, 36, 37, 38, 39, 42, 43, 45, 46, 94, 95, 96, 124, 126]
def tokB (c : Int) : Bool := rng 97 122 c || rng 65 90 c || rng 48 57 c || hasB marks c
def txtB (c : Int) : Bool := rng 9 9 c || rng 32 126 c || rng 128 255 c
def digB (c : Int) : Bool := rng 48 57 c
def hexB (c : Int) : Bool := rng 48 57 c || rng 97 102 c || rng 65 70 c
def hexN (c : Int) : Int := if rng 48 57 c then c - 48 else if rng 97 102 c then c - 87 else if rng 65 70 c then c - 55 else 0
def blkB (c : Int) : Bool := c == 32 || c == 9

theorem rng_true {lo hi c : Int} : rng lo hi c = true ↔ lo ≤ c ∧ c ≤ hi := by simp [rng]
theorem rng_false {lo hi c : Int} : rng lo hi c = false ↔ ¬ (lo ≤ c ∧ c ≤ hi) := by simp [rng]

/-- What holds of all 256 bytes holds of each byte. -/
theorem byte_all {α : Type} {p q : Int → α} (h : ∀ n : Nat, n < 256 → p n = q n) {c : Int} (h0 : 0 ≤ c) (h1 : c ≤ 255) : p c = q c := by
  have := h c.toNat (by omega)
  rwa [Int.toNat_of_nonneg h0] at this

theorem byte_wf (b : UInt8) : (0 : Int) ≤ (b.toNat : Int) ∧ (b.toNat : Int) ≤ 255 := by
  have := b.toNat_lt
  omega

/-! ### Texts -/
def allB (p : Int → Bool) (l : List UInt8) : Bool := l.all fun b => p (b.toNat : Int)
theorem take_snoc (s : ByteArray) (k : Nat) (h : k < s.size) : s.data.toList.take (k + 1) = s.data.toList.take k ++ [s[k]] := by
  rw [List.take_succ_eq_append_getElem (by simpa using h)]; rfl
theorem allB_snoc (p : Int → Bool) (l : List UInt8) (c : UInt8) : allB p (l ++ [c]) = (allB p l && p (c.toNat : Int)) := by simp [allB]
theorem allB_take (p : Int → Bool) (s : ByteArray) (k : Nat) (h : k < s.size) : allB p (s.data.toList.take (k + 1)) = (allB p (s.data.toList.take k) && p (s[k].toNat : Int)) := by rw [take_snoc s k h, allB_snoc]
theorem allB_false (p : Int → Bool) (s : ByteArray) (k : Nat) (h : k < s.size) (hf : p (s[k].toNat : Int) = false) : allB p s.data.toList = false := by
  unfold allB
  rw [List.all_eq_false]
  exact ⟨s[k], by simp [ByteArray.getElem_eq_getElem_data], by simp [hf]⟩
theorem allB_full (p : Int → Bool) (s : ByteArray) (k : Nat) (h : s.size ≤ k) (hf : allB p (s.data.toList.take k) = true) : allB p s.data.toList = true := by
  rwa [List.take_of_length_le (by simpa using h)] at hf

end Go.Proofs.YtjkfdjolhmgemaaGreatDoor
end

/-
  Plain functions on texts, without the program: small letters, blanks off both ends, the two parts of a cut (P1.2, P1.3), and small facts about them.
-/
section
namespace Go.Proofs.YtjkfdjolhmgemaaGreatDoor

/-- A text out of its bytes. -/
def mkS (l : List UInt8) : ByteArray := ⟨l.toArray⟩
theorem mkS_list (l : List UInt8) : (mkS l).data.toList = l := rfl
theorem mkS_eq {s : ByteArray} {l : List UInt8} (h : s.data.toList = l) : s = mkS l := by
  subst h
  exact (Lib.mk_data s).symm
theorem mkS_size (l : List UInt8) : (mkS l).size = l.length := by rw [Lib.size_eq, mkS_list]
theorem mkS_self (s : ByteArray) : mkS s.data.toList = s := (mkS_eq rfl).symm
theorem drop_at (s : ByteArray) (k : Nat) (h : k < s.size) : s.data.toList.drop k = s[k] :: s.data.toList.drop (k + 1) := by
  rw [List.drop_eq_getElem_cons (by rw [← Lib.size_eq]; exact h)]; rfl

/-! ### Blanks off both ends -/
def blkU (b : UInt8) : Bool := blkB (b.toNat : Int)
def rdw (l : List UInt8) : List UInt8 := (l.reverse.dropWhile blkU).reverse
def trimL (l : List UInt8) : List UInt8 := rdw (l.dropWhile blkU)

theorem dw_yes (s : ByteArray) (k : Nat) (h : k < s.size) (hb : blkB (s[k].toNat : Int) = true) : (s.data.toList.drop k).dropWhile blkU = (s.data.toList.drop (k + 1)).dropWhile blkU := by
  rw [drop_at s k h, List.dropWhile_cons_of_pos (show blkU _ = true from hb)]
theorem dw_no (s : ByteArray) (k : Nat) (h : k < s.size) (hb : blkB (s[k].toNat : Int) = false) : (s.data.toList.drop k).dropWhile blkU = s.data.toList.drop k := by
  rw [drop_at s k h, List.dropWhile_cons_of_neg (by unfold blkU; rw [hb]; decide)]
theorem dw_end (s : ByteArray) (k : Nat) (h : s.size ≤ k) : (s.data.toList.drop k).dropWhile blkU = s.data.toList.drop k := by
  rw [List.drop_eq_nil_of_le (by rw [← Lib.size_eq]; exact h)]; rfl
theorem rdw_nil : rdw [] = [] := rfl
theorem rdw_snoc_yes (l : List UInt8) (c : UInt8) (hb : blkB (c.toNat : Int) = true) : rdw (l ++ [c]) = rdw l := by
  unfold rdw; rw [List.reverse_append]; simp only [List.reverse_cons, List.reverse_nil, List.nil_append, List.cons_append]
  rw [List.dropWhile_cons_of_pos (show blkU _ = true from hb)]
theorem rdw_snoc_no (l : List UInt8) (c : UInt8) (hb : blkB (c.toNat : Int) = false) : rdw (l ++ [c]) = l ++ [c] := by
  unfold rdw; rw [List.reverse_append]; simp only [List.reverse_cons, List.reverse_nil, List.nil_append, List.cons_append]
  rw [List.dropWhile_cons_of_neg (by unfold blkU; rw [hb]; decide)]; simp

/-- The bytes of s from k to m. -/
def piece (s : ByteArray) (k m : Nat) : List UInt8 := (s.data.toList.drop k).take (m - k)
theorem piece_ext (s : ByteArray) (k m : Nat) : s.extract k m = mkS (piece s k m) := Lib.extract_eq s k m
theorem piece_all (s : ByteArray) (k : Nat) : piece s k s.size = s.data.toList.drop k := by
  unfold piece; rw [List.take_of_length_le]; rw [List.length_drop, ← Lib.size_eq]; exact Nat.le_refl _
theorem piece_none (s : ByteArray) (k : Nat) : piece s k k = [] := by unfold piece; simp
theorem piece_snoc (s : ByteArray) (k m : Nat) (h : k ≤ m) (hm : m < s.size) : piece s k (m + 1) = piece s k m ++ [s[m]] := by
  unfold piece
  rw [show m + 1 - k = (m - k) + 1 by omega, List.take_succ_eq_append_getElem (by rw [List.length_drop, ← Lib.size_eq]; omega)]
  congr 2
  rw [List.getElem_drop]
  simp only [show k + (m - k) = m by omega]; rfl

/-- Once the front is trimmed up to k. -/
theorem trim_front (s : ByteArray) (k : Nat) (h : s.data.toList.dropWhile blkU = s.data.toList.drop k) : trimL s.data.toList = rdw (piece s k s.size) := by
  unfold trimL; rw [h, piece_all]

/-- One blank off the front, off the end. -/
theorem dw_tail (t : ByteArray) (h : 0 < t.size) (hb : blkB (t[0].toNat : Int) = true) : (t.extract 1 t.size).data.toList.dropWhile blkU = t.data.toList.dropWhile blkU := by
  rw [Lib.extract_to_end]
  have := dw_yes t 0 h hb
  simpa using this.symm
theorem dw_keep (t : ByteArray) (h : 0 < t.size) (hb : blkB (t[0].toNat : Int) = false) : t.data.toList.dropWhile blkU = t.data.toList := by
  have := dw_no t 0 h hb
  simpa using this
theorem dw_empty (t : ByteArray) (h : t.size = 0) : t.data.toList.dropWhile blkU = t.data.toList := by
  have := dw_end t 0 (by omega)
  simpa using this
theorem list_snoc (t : ByteArray) (j : Nat) (h : t.size = j + 1) : t.data.toList = t.data.toList.take j ++ [t[j]'(by omega)] := by
  have := take_snoc t j (by omega)
  rwa [List.take_of_length_le (by rw [← Lib.size_eq]; omega)] at this
theorem rdw_tail (t : ByteArray) (j : Nat) (h : t.size = j + 1) (hb : blkB ((t[j]'(by omega)).toNat : Int) = true) : rdw (t.extract 0 j).data.toList = rdw t.data.toList := by
  rw [list_snoc t j h, rdw_snoc_yes _ _ hb, Lib.extract_data]
  simp
theorem rdw_keep (t : ByteArray) (j : Nat) (h : t.size = j + 1) (hb : blkB ((t[j]'(by omega)).toNat : Int) = false) : rdw t.data.toList = t.data.toList := by
  rw [list_snoc t j h, rdw_snoc_no _ _ hb]
theorem rdw_empty (t : ByteArray) (h : t.size = 0) : rdw t.data.toList = t.data.toList := by
  have : t.data.toList = [] := List.eq_nil_of_length_eq_zero (by rw [← Lib.size_eq]; exact h)
  rw [this]; rfl

/-! ### Small letters -/
def lowU (b : UInt8) : UInt8 := if 65 ≤ b.toNat ∧ b.toNat ≤ 90 then b + 32 else b
def lowL (l : List UInt8) : List UInt8 := l.map lowU

theorem lowU_yes (b : UInt8) (h : rng 65 90 (b.toNat : Int) = true) : ((lowU b).toNat : Int) = (b.toNat : Int) + 32 := by
  rw [rng_true] at h
  unfold lowU
  rw [if_pos (by omega), UInt8.toNat_add]
  have : (32 : UInt8).toNat = 32 := rfl
  omega
theorem lowU_no (b : UInt8) (h : rng 65 90 (b.toNat : Int) = false) : lowU b = b := by
  rw [rng_false] at h
  unfold lowU
  rw [if_neg (by omega)]
/-- The bytes of which the first k are made small. -/
def lowK (l : List UInt8) (k : Nat) : List UInt8 := lowL (l.take k) ++ l.drop k
theorem lowK_zero (l : List UInt8) : lowK l 0 = l := by simp [lowK, lowL]
theorem lowK_full (l : List UInt8) (k : Nat) (h : l.length ≤ k) : lowK l k = lowL l := by simp [lowK, List.take_of_length_le h, List.drop_eq_nil_of_le h]
theorem lowK_len (l : List UInt8) (k : Nat) : (lowK l k).length = l.length := by simp [lowK, lowL]; omega
theorem lowL_len (l : List UInt8) : (lowL l).length = l.length := by simp [lowL]
theorem lowK_at (s : ByteArray) (k : Nat) (h : k < s.size) : (lowK s.data.toList k)[k]? = some s[k] := by
  have hl : s.size = s.data.toList.length := Lib.size_eq s
  have h1 : (lowL (s.data.toList.take k)).length = k := by rw [lowL_len, List.length_take]; omega
  unfold lowK
  rw [List.getElem?_append_right (by omega), h1, Nat.sub_self, drop_at s k h]; rfl
theorem lowK_succ (s : ByteArray) (k : Nat) (h : k < s.size) : lowK s.data.toList (k + 1) = (lowK s.data.toList k).set k (lowU s[k]) := by
  have hl : s.size = s.data.toList.length := Lib.size_eq s
  have h1 : (lowL (s.data.toList.take k)).length = k := by rw [lowL_len, List.length_take]; omega
  unfold lowK
  rw [take_snoc s k h, List.set_append_right _ _ (by omega), h1, Nat.sub_self, drop_at s k h]
  simp [lowL]
theorem lowK_same (s : ByteArray) (k : Nat) (h : k < s.size) (hb : lowU s[k] = s[k]) : lowK s.data.toList (k + 1) = lowK s.data.toList k := by
  have hl : s.size = s.data.toList.length := Lib.size_eq s
  have hk := lowK_at s k h
  rw [lowK_succ s k h, hb]
  rw [List.getElem?_eq_some_iff] at hk
  obtain ⟨a, b⟩ := hk
  have := List.set_getElem_self a
  rw [b] at this
  exact this

def sameB (a b : ByteArray) : Bool := lowL a.data.toList == lowL b.data.toList
theorem same_list (a b : List UInt8) : ((mkS a).toList == (mkS b).toList) = (a == b) := by rw [Lib.toList_data, Lib.toList_data, mkS_list, mkS_list]
theorem same_len {a b : ByteArray} (h : sameB a b = true) : a.size = b.size := by
  unfold sameB at h
  have := congrArg List.length (beq_iff_eq.1 h)
  rw [lowL_len, lowL_len] at this
  rw [Lib.size_eq, Lib.size_eq, this]

theorem same_symm (a b : ByteArray) : sameB b a = sameB a b := by unfold sameB; exact BEq.comm
/-! ### The two parts of a cut -/
def idxOf (s : ByteArray) (c : Int) : Int := Lib.indexByte s.data.toList c.toNat.toUInt8
def cutA (s : ByteArray) (c : Int) : ByteArray := if idxOf s c = -1 then s else s.extract 0 (idxOf s c).toNat
def cutZ (s : ByteArray) (c : Int) : ByteArray := if idxOf s c = -1 then ⟨#[]⟩ else s.extract ((idxOf s c).toNat + 1) s.size
def cutOk (s : ByteArray) (c : Int) : Bool := !(idxOf s c == -1)
end Go.Proofs.YtjkfdjolhmgemaaGreatDoor
end

/-
  Plain facts on trimmed texts, without the program: a trimmed text has no blank at its ends, and blanks added to it are taken off again (P1.4).
-/
section
namespace Go.Proofs.YtjkfdjolhmgemaaGreatDoor

/-- No blank stands at an end. -/
structure Edge (l : List UInt8) : Prop where
  front : l.dropWhile blkU = l
  back : rdw l = l

theorem rdw_idem (l : List UInt8) : rdw (rdw l) = rdw l := by
  unfold rdw
  rw [List.reverse_reverse]
  congr 1
  induction l.reverse with
  | nil => rfl
  | cons a r ih =>
    by_cases h : blkU a = true
    · rw [List.dropWhile_cons_of_pos h]; exact ih
    · rw [List.dropWhile_cons_of_neg h, List.dropWhile_cons_of_neg h]

theorem rdw_prefix (l : List UInt8) : rdw l <+: l := by
  unfold rdw
  have := List.dropWhile_suffix blkU (l := l.reverse)
  have h2 := List.reverse_prefix.2 this
  rwa [List.reverse_reverse] at h2

theorem dw_head {l : List UInt8} (h : l.dropWhile blkU = l) : l = [] ∨ ∃ a r, l = a :: r ∧ blkU a = false := by
  cases l with
  | nil => exact .inl rfl
  | cons a r =>
    refine .inr ⟨a, r, rfl, ?_⟩
    cases hb : blkU a with
    | false => rfl
    | true =>
      rw [List.dropWhile_cons_of_pos hb] at h
      have := congrArg List.length h
      have h2 := (List.dropWhile_suffix blkU (l := r)).length_le
      simp at this
      omega

theorem dw_of_head {l : List UInt8} (h : l = [] ∨ ∃ a r, l = a :: r ∧ blkU a = false) : l.dropWhile blkU = l := by
  rcases h with rfl | ⟨a, r, rfl, h⟩
  · rfl
  · exact List.dropWhile_cons_of_neg (by rw [h]; decide)

theorem dw_idem (l : List UInt8) : (l.dropWhile blkU).dropWhile blkU = l.dropWhile blkU := by
  induction l with
  | nil => rfl
  | cons a r ih =>
    by_cases h : blkU a = true
    · rw [List.dropWhile_cons_of_pos h]; exact ih
    · rw [List.dropWhile_cons_of_neg h, List.dropWhile_cons_of_neg h]

theorem trim_edge (l : List UInt8) : Edge (trimL l) := by
  refine ⟨?_, rdw_idem _⟩
  unfold trimL
  have hp := rdw_prefix (l.dropWhile blkU)
  apply dw_of_head
  rcases dw_head (dw_idem l) with h | ⟨a, r, h, hb⟩
  · rw [h]; exact .inl rfl
  · obtain ⟨z, hz⟩ := hp
    cases hr : rdw (l.dropWhile blkU) with
    | nil => exact .inl rfl
    | cons b s =>
      rw [hr, h] at hz
      injection hz with h1 h2
      subst h1
      exact .inr ⟨b, s, rfl, hb⟩

theorem trim_of_edge {l : List UInt8} (h : Edge l) : trimL l = l := by
  unfold trimL
  rw [h.front, h.back]

end Go.Proofs.YtjkfdjolhmgemaaGreatDoor
end

/-
  Plain functions of layer 2, without the program: digits to a base and what they denote, sums of seconds, and small facts about them (P2.1 to P2.5).
-/
section
namespace Go.Proofs.YtjkfdjolhmgemaaGreatDoor

/-! ### Seconds -/
def clampI (n : Int) : Int := if n < 0 then 0 else if n < 2147483648 then n else 2147483648
def addI (a b : Int) : Int := clampI (clampI a + clampI b)
def lessI (a b : Int) : Int := clampI (clampI a - clampI b)
/-! ### What digits denote -/
/-- What a character is worth as a digit; 99 if it is none. -/
def digV (c : Int) : Int := if rng 48 57 c then c - 48 else if rng 97 102 c then c - 87 else if rng 65 70 c then c - 55 else 99
theorem digV_nn (c : Int) : 0 ≤ digV c := by
  unfold digV
  repeat' split
  all_goals (try simp only [rng_true] at *)
  all_goals omega
theorem digV_big {c : Int} (h : 128 ≤ c) : digV c = 99 := by
  unfold digV
  rw [if_neg (by rw [rng_true]; omega), if_neg (by rw [rng_true]; omega), if_neg (by rw [rng_true]; omega)]
def isD (b : Int) (c : Int) : Bool := decide (digV c < b)
theorem isD_true {b c : Int} : isD b c = true ↔ digV c < b := by simp [isD]
theorem isD_false {b c : Int} : isD b c = false ↔ b ≤ digV c := by simp [isD]
theorem hex_digV : ∀ n : Nat, n < 256 → (hexB n = true → hexN n = digV n ∧ digV n < 16) ∧ (hexB n = false → digV n = 99) := by decide +kernel
/-- What digits denote, cut behind each digit. -/
def cutV (b cut : Int) (l : List UInt8) : Int := l.foldl (fun n c => if n * b + digV (c.toNat : Int) < cut then n * b + digV (c.toNat : Int) else cut) 0
/-- What digits denote. -/
def valV (b : Int) (l : List UInt8) : Int := l.foldl (fun n c => n * b + digV (c.toNat : Int)) 0
theorem cutV_snoc (b cut : Int) (l : List UInt8) (c : UInt8) : cutV b cut (l ++ [c]) = if cutV b cut l * b + digV (c.toNat : Int) < cut then cutV b cut l * b + digV (c.toNat : Int) else cut := by unfold cutV; rw [List.foldl_append]; rfl
theorem valV_snoc (b : Int) (l : List UInt8) (c : UInt8) : valV b (l ++ [c]) = valV b l * b + digV (c.toNat : Int) := by simp [valV]
theorem cutV_take (b cut : Int) (s : ByteArray) (k : Nat) (h : k < s.size) : cutV b cut (s.data.toList.take (k + 1)) = if cutV b cut (s.data.toList.take k) * b + digV (s[k].toNat : Int) < cut then cutV b cut (s.data.toList.take k) * b + digV (s[k].toNat : Int) else cut := by rw [take_snoc s k h, cutV_snoc]
theorem valV_take (b : Int) (s : ByteArray) (k : Nat) (h : k < s.size) : valV b (s.data.toList.take (k + 1)) = valV b (s.data.toList.take k) * b + digV (s[k].toNat : Int) := by rw [take_snoc s k h, valV_snoc]

/-- A list, from its end. -/
theorem snoc_ind {α : Type} {P : List α → Prop} (h0 : P []) (h1 : ∀ l a, P l → P (l ++ [a])) : ∀ l, P l := by
  intro l
  have : ∀ n (l : List α), l.length = n → P l := by
    intro n
    induction n with
    | zero => intro l h; rw [List.length_eq_zero_iff] at h; subst h; exact h0
    | succ n ih =>
      intro l h
      obtain ⟨a, r, rfl⟩ : ∃ a r, l = r ++ [a] := by
        have hne : l ≠ [] := by intro e; subst e; simp at h
        exact ⟨l.getLast hne, l.dropLast, (List.dropLast_concat_getLast hne).symm⟩
      exact h1 r a (ih r (by simpa using h))
  exact this _ l rfl

theorem allB_append (p : Int → Bool) (l m : List UInt8) : allB p (l ++ m) = (allB p l && allB p m) := by simp [allB]
theorem allB_one (p : Int → Bool) (c : UInt8) : allB p [c] = p (c.toNat : Int) := by simp [allB]

theorem valV_nn {b : Int} (hb : 0 ≤ b) (l : List UInt8) : 0 ≤ valV b l := by
  induction l using snoc_ind with
  | h0 => simp [valV]
  | h1 l c ih =>
    rw [valV_snoc]
    have := digV_nn (c.toNat : Int)
    have := Int.mul_nonneg ih hb
    omega
theorem valV_lt (b : Nat) (l : List UInt8) (hb : 0 < b) (h : allB (isD b) l = true) : valV b l < ((b ^ l.length : Nat) : Int) := by
  induction l using snoc_ind with
  | h0 => simp [valV]
  | h1 l c ih =>
    rw [allB_append, allB_one, Bool.and_eq_true, isD_true] at h
    have := ih h.1
    have h2 := h.2
    rw [valV_snoc, List.length_append, List.length_singleton, Nat.pow_succ, Int.natCast_mul]
    have : (valV b l + 1) * (b : Int) ≤ ((b ^ l.length : Nat) : Int) * (b : Int) := Int.mul_le_mul_of_nonneg_right (by omega) (by omega)
    rw [Int.add_mul] at this
    omega
/-- Where the cut is not reached, nothing is cut. -/
theorem cutV_val (b : Nat) (cut : Int) (l : List UInt8) (hb : 0 < b) (h : allB (isD b) l = true) (hc : ((b ^ l.length : Nat) : Int) ≤ cut) : cutV b cut l = valV b l := by
  induction l using snoc_ind with
  | h0 => rfl
  | h1 l c ih =>
    have hlt := valV_lt b _ hb h
    rw [allB_append, allB_one, Bool.and_eq_true] at h
    have hle : ((b ^ l.length : Nat) : Int) ≤ ((b ^ (l ++ [c]).length : Nat) : Int) := by
      rw [List.length_append, List.length_singleton]
      exact_mod_cast Nat.pow_le_pow_right hb (Nat.le_succ _)
    rw [cutV_snoc, ih h.1 (by omega), ← valV_snoc, if_pos (by omega)]
/-- The number that digits to a base denote, and the error's number: ErrForm 5, ErrRange 3 (P2.2). -/
def numN (b : Int) (long : Nat) (most : Int) (l : List UInt8) : Int := if l.length = 0 ∨ long < l.length ∨ allB (isD b) l = false ∨ most < valV b l then 0 else valV b l
def numE (b : Int) (long : Nat) (most : Int) (l : List UInt8) : Int := if l.length = 0 ∨ long < l.length ∨ allB (isD b) l = false then 5 else if most < valV b l then 3 else 0
/-- P2.3. -/
def secN (l : List UInt8) : Int := if allB (isD 10) l then cutV 10 2147483648 l else 0
def secB (l : List UInt8) : Bool := allB (isD 10) l && !l.isEmpty

/-! ### A number's digits -/
def dch (d : Nat) : UInt8 := if d < 10 then UInt8.ofNat (48 + d) else UInt8.ofNat (87 + d)
theorem dch_val : ∀ d : Nat, d < 16 → digV ((dch d).toNat : Int) = d := by decide +kernel
/-- The digits of u to the base b. -/
def digs (b u : Nat) : List UInt8 := if u < b ∨ b < 2 then [dch u] else digs b (u / b) ++ [dch (u % b)]
termination_by u
decreasing_by exact Nat.div_lt_self (by omega) (by omega)
theorem digs_small {b u : Nat} (h : u < b) : digs b u = [dch u] := by rw [digs, if_pos (.inl h)]
theorem digs_big {b u : Nat} (hb : 2 ≤ b) (h : b ≤ u) : digs b u = digs b (u / b) ++ [dch (u % b)] := by rw [digs, if_neg (by omega)]
theorem digs_ten (u : Nat) : Lib.decDigits u = digs 10 u := by
  induction u using Nat.strongRecOn with
  | _ u ih =>
    by_cases h : u < 10
    · rw [Lib.decDigits, dif_pos h, digs_small h]
      simp [dch, h]
    · rw [Lib.decDigits, dif_neg h, digs_big (by omega) (by omega), ih (u / 10) (by omega)]
      have : u % 10 < 10 := Nat.mod_lt _ (by omega)
      simp [dch, this]
theorem digs_len (b k u : Nat) (hb : 2 ≤ b) (h : u < b ^ (k + 1)) : (digs b u).length ≤ k + 1 := by
  induction k generalizing u with
  | zero => rw [digs_small (by simpa using h)]; simp
  | succ k ih =>
    by_cases hu : u < b
    · rw [digs_small hu]; simp
    · rw [digs_big hb (by omega), List.length_append, List.length_singleton]
      have := ih (u / b) (by rw [Nat.div_lt_iff_lt_mul (by omega)]; rwa [Nat.pow_succ] at h)
      omega

/-- P2.1. -/
def plainL (n : Int) : List UInt8 := if n < 0 then 45 :: digs 10 n.natAbs else digs 10 n.toNat
theorem plainL_itoa (n : Int) : Lib.itoa n = plainL n := by unfold Lib.itoa plainL; rw [digs_ten, digs_ten]
theorem plainL_short (n : Int) (h0 : -9223372036854775808 ≤ n) (h1 : n ≤ 9223372036854775807) : (plainL n).length ≤ 20 := by
  unfold plainL
  have hp : (9223372036854775808 : Nat) < 10 ^ (18 + 1) := by decide +kernel
  split
  · rw [List.length_cons]
    have := digs_len 10 18 n.natAbs (by omega) (by omega)
    omega
  · have := digs_len 10 18 n.toNat (by omega) (by omega)
    omega
def padL (n width : Int) : List UInt8 := if n < 0 ∨ 9 < width then plainL n else List.replicate (width.toNat - (plainL n).length) 48 ++ plainL n
/-- P2.2. -/
def hexL (n : Int) : List UInt8 := if n < 0 then [] else digs 16 n.toNat

/-! ### P2.5: what was written comes back -/
end Go.Proofs.YtjkfdjolhmgemaaGreatDoor
end
