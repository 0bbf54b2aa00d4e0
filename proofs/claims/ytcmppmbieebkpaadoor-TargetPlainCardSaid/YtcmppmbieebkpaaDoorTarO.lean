/-
  Plain facts for TargetPlain: the part behind the last slash of what a plain path begins with.
-/
import Derived.Test.YtcmppmbieebkpaaDoorTarX
namespace Go.Proofs.YtcmppmbieebkpaaDoor
open Go.RowKit

def curF (a : List UInt8) (c : UInt8) : List UInt8 := if c = 47 then [] else a ++ [c]
def curL (l : List UInt8) : List UInt8 := l.foldl curF []
theorem curL_snoc (l : List UInt8) (c : UInt8) : curL (l ++ [c]) = if c = 47 then [] else curL l ++ [c] := by
  unfold curL
  rw [List.foldl_append]; rfl
theorem cur_no (x : List UInt8) (h : NoSl x) (a : List UInt8) : x.foldl curF a = a ++ x := by
  induction x generalizing a with
  | nil => simp
  | cons c r ih =>
    rw [List.foldl_cons, ih (fun d hd => h d (List.mem_cons_of_mem _ hd))]
    unfold curF
    rw [if_neg (h c (List.mem_cons_self ..))]
    simp
theorem cur_len (l : List UInt8) (a : List UInt8) : (l.foldl curF a).length ≤ a.length + l.length := by
  induction l generalizing a with
  | nil => simp
  | cons c r ih =>
    rw [List.foldl_cons]
    refine Nat.le_trans (ih _) ?_
    unfold curF
    split <;> simp <;> omega
def GoodP (x : List UInt8) : Prop := x ≠ [46] ∧ x ≠ [46, 46]
theorem cur_seg (L : List (List UInt8)) (h : ∀ y ∈ L, Seg y) (a : List UInt8) (ha : GoodP a) (i : Nat) (hi : i ≤ (joinS L).length) (hc : i = (joinS L).length ∨ (joinS L)[i]? = some 47) :
    GoodP (((joinS L).take i).foldl curF a) := by
  induction L generalizing a i with
  | nil =>
    have : i = 0 := by simpa [joinS] using hi
    subst this
    simpa using ha
  | cons x L ih =>
    have hx := h x (List.mem_cons_self ..)
    rw [joinS_cons] at hi hc ⊢
    cases i with
    | zero => simpa using ha
    | succ j =>
      have e : ((47 :: x ++ joinS L).take (j + 1)) = 47 :: (x ++ joinS L).take j := rfl
      rw [e, List.foldl_cons]
      have e0 : curF a 47 = [] := by simp [curF]
      rw [e0]
      by_cases hj : j < x.length
      · exfalso
        rcases hc with hc | hc
        · simp at hc; omega
        · have e2 : (47 :: x ++ joinS L)[j + 1]? = x[j]? := by
            rw [List.cons_append, List.getElem?_cons_succ, List.getElem?_append_left hj]
          rw [e2] at hc
          exact hx.sl 47 (List.mem_of_getElem? hc) rfl
      · have e3 : (x ++ joinS L).take j = x ++ (joinS L).take (j - x.length) := by
          rw [List.take_append, List.take_of_length_le (by omega)]
        rw [e3, List.foldl_append, cur_no x hx.sl, List.nil_append]
        refine ih (fun y hy => h y (List.mem_cons_of_mem _ hy)) x ⟨hx.d1, hx.d2⟩ (j - x.length) ?_ ?_
        · simp at hi; omega
        · rcases hc with hc | hc
          · left; simp at hc; omega
          · right
            rw [List.cons_append, List.getElem?_cons_succ, List.getElem?_append_right (by omega)] at hc
            exact hc
theorem cur_plain {v : List UInt8} (p : Plain8 v) : ∃ n, n ≤ v.length ∧ (∀ i c, i < n → v[i]? = some c → c ≠ 63) ∧ (n < v.length → v[n]? = some 63) ∧
    ∀ i, i ≤ n → (i = n ∨ v[i]? = some 47) → GoodP (curL (v.take i)) := by
  obtain ⟨x, L, q, rfl, hs, hq, hn⟩ := p.form
  refine ⟨(joinS (x :: L)).length, by simp, ?_, ?_, ?_⟩
  · intro i c hi hc
    rw [List.getElem?_append_left hi] at hc
    exact hn c (List.mem_of_getElem? hc)
  · intro h
    rcases hq with rfl | ⟨r, rfl⟩
    · simp at h
    · rw [List.getElem?_append_right (Nat.le_refl _)]; simp
  · intro i hi hc
    have e : (joinS (x :: L) ++ q).take i = (joinS (x :: L)).take i := by
      rw [List.take_append_of_le_length hi]
    rw [e]
    refine cur_seg (x :: L) hs [] ⟨by decide, by decide⟩ i hi ?_
    rcases hc with hc | hc
    · exact .inl hc
    · by_cases hl : i < (joinS (x :: L)).length
      · right; rwa [List.getElem?_append_left hl] at hc
      · left; omega

theorem ext_one8 (s p : ByteArray) (k : Nat) (h : k < s.size) : (p ++ s.extract k (k + 1)).data.toList = p.data.toList ++ [s[k]] := by
  rw [append_list, piece_ext, mkS_list, piece_snoc s k k (Nat.le_refl _) h, piece_none, List.nil_append]
theorem get8 (s : ByteArray) (k : Nat) (h : k < s.size) : s.data.toList[k]? = some s[k] := by
  rw [List.getElem?_eq_getElem (by rw [← Lib.size_eq]; exact h)]; rfl
theorem take_snoc8 (s : ByteArray) (k : Nat) (h : k < s.size) : s.data.toList.take (k + 1) = s.data.toList.take k ++ [s[k]] := by
  have h' : k < s.data.toList.length := by rw [← Lib.size_eq]; exact h
  rw [List.take_succ_eq_append_getElem h']; rfl
theorem byte_eq (c d : UInt8) : ((c.toNat : Int) == (d.toNat : Int)) = true ↔ c = d := by
  rw [beq_iff_eq]
  constructor
  · intro h; exact UInt8.toNat_inj.1 (by omega)
  · intro h; rw [h]
theorem byte_ne (c d : UInt8) : ((c.toNat : Int) == (d.toNat : Int)) = false ↔ c ≠ d := by
  rw [← Bool.not_eq_true, byte_eq]
structure Walk8 (B : ByteArray) (n : Nat) : Prop where
  le : n ≤ B.size
  pos : 0 < B.size
  head : ∀ h : 0 < B.size, ((B[0].toNat : Int) == 47) = true
  no : ∀ k (h : k < B.size), k < n → ((B[k].toNat : Int) == 63) = false
  yes : ∀ h : n < B.size, ((B[n].toNat : Int) == 63) = true ∧ ((B[n].toNat : Int) == 47) = false
  part : ∀ k, k ≤ n → (k = n ∨ ∃ h : k < B.size, ((B[k].toNat : Int) == 47) = true) → GoodP (curL (B.data.toList.take k))
theorem walk8 {v : List UInt8} (p : Plain8 v) : ∃ n, Walk8 (mkS v) n := by
  obtain ⟨n, h1, h2, h3, h4⟩ := cur_plain p
  have hsz : (mkS v).size = v.length := mkS_size v
  have hl : (mkS v).data.toList = v := mkS_list v
  have hh := plain_head p
  generalize mkS v = B at *
  subst hl
  refine ⟨n, by omega, ?_, ?_, ?_, ?_, ?_⟩
  · cases h : B.data.toList with
    | nil => rw [h] at hh; cases hh
    | cons c r => rw [hsz, h]; simp
  · intro h
    have := get8 B 0 h
    rw [← List.head?_eq_getElem?, hh] at this
    exact (byte_eq B[0] 47).2 (Option.some.inj this).symm
  · intro k h hk
    exact (byte_ne B[k] 63).2 (h2 k _ hk (get8 B k h))
  · intro h
    have := h3 (by omega)
    rw [get8 B n h] at this
    have e := Option.some.inj this
    exact ⟨(byte_eq B[n] 63).2 e, (byte_ne B[n] 47).2 (by rw [e]; decide)⟩
  · intro k hk hc
    refine h4 k hk ?_
    rcases hc with hc | ⟨h, hc⟩
    · exact .inl hc
    · right; rw [get8 B k h, (byte_eq B[k] 47).1 hc]
theorem good_no {P : ByteArray} (h : GoodP P.data.toList) : (P.toList == [46]) = false ∧ (P.toList == [46, 46]) = false := by
  rw [Lib.toList_data]
  exact ⟨beq_eq_false_iff_ne.2 h.1, beq_eq_false_iff_ne.2 h.2⟩

end Go.Proofs.YtcmppmbieebkpaaDoor
