/-
  Texts that the laws of this seat lean on, one behind the other.
-/
import Derived.Test.YtfmaaghmbnhikaaGreatDoorMrgC
import Derived.Test.YtfmaaghmbnhikaaGreatDoorMrgA
import Derived.Lib.Join
/-
  Plain functions on lists, without the program: the elements of a comma-separated list, quoted texts, and small facts about them (P6.1, P6.2, P6.4).
-/
section
namespace Go.Proofs.YtfmaaghmbnhikaaGreatDoor

/-! ### Quoted parts: state 0 outside, 1 within, 2 behind a backslash within -/
def nxt (q : Nat) (c : UInt8) : Nat := if q = 2 then 1 else if q = 1 then (if c = 34 then 0 else if c = 92 then 2 else 1) else (if c = 34 then 1 else 0)
theorem nxt_two (c : UInt8) : nxt 2 c = 1 := rfl
theorem nxt_close : nxt 1 34 = 0 := rfl
theorem nxt_esc : nxt 1 92 = 2 := rfl
theorem nxt_in {c : UInt8} (h : c ≠ 34) (k : c ≠ 92) : nxt 1 c = 1 := by simp [nxt, h, k]
theorem nxt_open : nxt 0 34 = 1 := rfl
theorem nxt_out {c : UInt8} (h : c ≠ 34) : nxt 0 c = 0 := by simp [nxt, h]
theorem nxt_lt (q : Nat) (c : UInt8) : nxt q c < 3 := by
  unfold nxt
  repeat' split
  all_goals omega

def addE (out : List (List UInt8)) (part : List UInt8) : List (List UInt8) := if trimL part = [] then out else out ++ [trimL part]
def spl (q : Nat) (part : List UInt8) (out : List (List UInt8)) : List UInt8 → Option (List (List UInt8))
  | [] => if q = 0 then some (addE out part) else none
  | c :: r => if q = 0 ∧ c = 44 then spl 0 [] (addE out part) r else spl (nxt q c) (part ++ [c]) out r
def splitL (l : List UInt8) : Option (List (List UInt8)) := spl 0 [] [] l
def splO (l : List UInt8) : List (List UInt8) := (splitL l).getD []
def splE (l : List UInt8) : Int := if (splitL l).isSome then 0 else 5
theorem mkS_empty (l : List UInt8) : (mkS l).toList.isEmpty = l.isEmpty := by rw [Lib.toList_data, mkS_list]
theorem trim_nil : trimL [] = [] := rfl
theorem addE_nil (out : List (List UInt8)) : addE out [] = out := by simp [addE, trim_nil]

/-- How many bytes the rest of a quoted part takes. -/
def qEnd (q : Nat) : List UInt8 → Option Nat
  | [] => none
  | c :: r => if nxt q c = 0 then some 1 else (qEnd (nxt q c) r).map (· + 1)
/-- How many bytes an element takes. -/
def eEnd (q : Nat) : List UInt8 → Option Nat
  | [] => if q = 0 then some 0 else none
  | c :: r => if q = 0 ∧ c = 44 then some 0 else (eEnd (nxt q c) r).map (· + 1)

theorem eEnd_in : ∀ (l : List UInt8) (q : Nat), (q = 1 ∨ q = 2) → eEnd q l = (qEnd q l).bind fun n => (eEnd 0 (l.drop n)).map (· + n)
  | [], q, hq => by
    have : q ≠ 0 := by omega
    simp [eEnd, qEnd, this]
  | c :: r, q, hq => by
    have h0 : ¬ (q = 0 ∧ c = 44) := fun h => by omega
    have hl := nxt_lt q c
    by_cases hz : nxt q c = 0
    · simp [eEnd, qEnd, h0, hz]
    · have ih := eEnd_in r (nxt q c) (by omega)
      simp only [eEnd, qEnd, if_neg h0, if_neg hz, ih]
      cases qEnd (nxt q c) r with
      | none => rfl
      | some n => simp [Function.comp_def, Nat.add_assoc]

theorem eEnd_le : ∀ (l : List UInt8) (q n : Nat), eEnd q l = some n → n ≤ l.length ∧ (n = l.length ∨ l[n]? = some 44)
  | [], q, n, h => by
    simp only [eEnd] at h
    split at h
    · cases h; simp
    · cases h
  | c :: r, q, n, h => by
    simp only [eEnd] at h
    split at h
    · rename_i hc
      cases h
      simp [hc.2]
    · rw [Option.map_eq_some_iff] at h
      obtain ⟨m, hm, rfl⟩ := h
      have := eEnd_le r _ m hm
      simpa using this
theorem qEnd_le : ∀ (l : List UInt8) (q n : Nat), qEnd q l = some n → 0 < n ∧ n ≤ l.length
  | [], q, n, h => by cases h
  | c :: r, q, n, h => by
    simp only [qEnd] at h
    split at h
    · cases h; simp
    · rw [Option.map_eq_some_iff] at h
      obtain ⟨m, hm, rfl⟩ := h
      have := qEnd_le r _ m hm
      simp; omega

theorem spl_eEnd : ∀ (l : List UInt8) (q : Nat) (part : List UInt8) (out : List (List UInt8)), spl q part out l = (eEnd q l).bind fun n => spl 0 [] (addE out (part ++ l.take n)) (l.drop (n + 1))
  | [], q, part, out => by
    by_cases h : q = 0
    · simp [spl, eEnd, h, addE_nil]
    · simp [spl, eEnd, h]
  | c :: r, q, part, out => by
    by_cases h : q = 0 ∧ c = 44
    · simp [spl, eEnd, h]
    · have ih := spl_eEnd r (nxt q c) (part ++ [c]) out
      simp only [spl, eEnd, if_neg h, ih]
      cases eEnd (nxt q c) r with
      | none => rfl
      | some n => simp

/-- The place behind the quoted part whose rest begins at m; the place of an element's end. -/
def qPos (s : ByteArray) (m : Nat) : Option Nat := (qEnd 1 (s.data.toList.drop m)).map (· + m)
def ePos (s : ByteArray) (m : Nat) : Option Nat := (eEnd 0 (s.data.toList.drop m)).map (· + m)
theorem qPos_none (s : ByteArray) (m : Nat) (h : s.size ≤ m) : qPos s m = none := by
  unfold qPos
  rw [List.drop_eq_nil_of_le (by rw [← Lib.size_eq]; exact h)]; rfl
theorem qPos_close (s : ByteArray) (m : Nat) (h : m < s.size) (hc : s[m] = 34) : qPos s m = some (m + 1) := by
  unfold qPos
  rw [drop_at s m h, hc]
  simp [qEnd, nxt_close]; omega
theorem qPos_esc (s : ByteArray) (m : Nat) (h : m < s.size) (hc : s[m] = 92) : qPos s m = qPos s (m + 2) := by
  unfold qPos
  rw [drop_at s m h, hc]
  by_cases h1 : m + 1 < s.size
  · rw [drop_at s (m + 1) h1]
    simp [qEnd, nxt_esc, nxt_two, Function.comp_def]
    congr 1; funext x; omega
  · rw [List.drop_eq_nil_of_le (by rw [← Lib.size_eq]; omega), List.drop_eq_nil_of_le (by rw [← Lib.size_eq]; omega)]
    simp [qEnd, nxt_esc]
theorem qPos_in (s : ByteArray) (m : Nat) (h : m < s.size) (h1 : s[m] ≠ 34) (h2 : s[m] ≠ 92) : qPos s m = qPos s (m + 1) := by
  unfold qPos
  rw [drop_at s m h]
  simp [qEnd, nxt_in h1 h2, Function.comp_def]
  congr 1; funext x; omega
theorem qPos_le (s : ByteArray) (m e : Nat) (h : qPos s m = some e) : m < e ∧ e ≤ s.size := by
  unfold qPos at h
  rw [Option.map_eq_some_iff] at h
  obtain ⟨n, hn, rfl⟩ := h
  have := qEnd_le _ _ _ hn
  rw [List.length_drop, ← Lib.size_eq] at this
  omega
theorem ePos_end (s : ByteArray) (m : Nat) (h : s.size ≤ m) : ePos s m = some m := by
  unfold ePos
  rw [List.drop_eq_nil_of_le (by rw [← Lib.size_eq]; exact h)]
  simp [eEnd]
theorem ePos_comma (s : ByteArray) (m : Nat) (h : m < s.size) (hc : s[m] = 44) : ePos s m = some m := by
  unfold ePos
  rw [drop_at s m h, hc]
  simp [eEnd]
theorem ePos_out (s : ByteArray) (m : Nat) (h : m < s.size) (h1 : s[m] ≠ 34) (h2 : s[m] ≠ 44) : ePos s m = ePos s (m + 1) := by
  unfold ePos
  rw [drop_at s m h]
  simp [eEnd, nxt_out h1, h2, Function.comp_def]
  congr 1; funext x; omega
theorem ePos_open (s : ByteArray) (m : Nat) (h : m < s.size) (hc : s[m] = 34) : ePos s m = (qPos s (m + 1)).bind (ePos s) := by
  unfold ePos qPos
  rw [drop_at s m h, hc]
  have h0 : ¬ ((0 : Nat) = 0 ∧ (34 : UInt8) = 44) := by decide
  have h1 : eEnd 0 (34 :: s.data.toList.drop (m + 1)) = (eEnd 1 (s.data.toList.drop (m + 1))).map (· + 1) := by rw [eEnd, if_neg h0, nxt_open]
  rw [h1, eEnd_in _ 1 (.inl rfl)]
  cases hq : qEnd 1 (s.data.toList.drop (m + 1)) with
  | none => rfl
  | some n =>
    simp only [Option.map_some, Option.bind_some, List.drop_drop, Option.map_map]
    rw [show m + 1 + n = n + (m + 1) by omega]
    cases eEnd 0 (s.data.toList.drop (n + (m + 1))) with
    | none => rfl
    | some k => simp; omega
theorem ePos_le (s : ByteArray) (m e : Nat) (h : ePos s m = some e) (hm : m ≤ s.size) : m ≤ e ∧ e ≤ s.size := by
  unfold ePos at h
  rw [Option.map_eq_some_iff] at h
  obtain ⟨n, hn, rfl⟩ := h
  have := (eEnd_le _ _ _ hn).1
  rw [List.length_drop, ← Lib.size_eq] at this
  omega
/-- One element more. -/
theorem spl_some (s : ByteArray) (m e : Nat) (out : List (List UInt8)) (h : ePos s m = some e) : spl 0 [] out (s.data.toList.drop m) = spl 0 [] (addE out (piece s m e)) (s.data.toList.drop (e + 1)) := by
  unfold ePos at h
  rw [Option.map_eq_some_iff] at h
  obtain ⟨n, hn, rfl⟩ := h
  rw [spl_eEnd, hn]
  simp only [Option.bind_some, List.nil_append, List.drop_drop]
  unfold piece
  rw [show n + m - m = n by omega, show m + (n + 1) = n + m + 1 by omega]
theorem spl_none (s : ByteArray) (m : Nat) (out : List (List UInt8)) (h : ePos s m = none) : spl 0 [] out (s.data.toList.drop m) = none := by
  unfold ePos at h
  rw [Option.map_eq_none_iff] at h
  rw [spl_eEnd, h]; rfl
theorem spl_end (s : ByteArray) (m : Nat) (out : List (List UInt8)) (h : s.size ≤ m) : spl 0 [] out (s.data.toList.drop m) = some out := by
  rw [List.drop_eq_nil_of_le (by rw [← Lib.size_eq]; exact h)]
  simp [spl, addE_nil]

/-! ### What begins and ends outside of a quoted part, without a comma outside -/
def scn (q : Nat) : List UInt8 → Option Nat
  | [] => some q
  | c :: r => if q = 0 ∧ c = 44 then none else scn (nxt q c) r
theorem spl_scn : ∀ (x : List UInt8) (q q' : Nat) (part : List UInt8) (out : List (List UInt8)) (r : List UInt8), scn q x = some q' → spl q part out (x ++ r) = spl q' (part ++ x) out r
  | [], q, q', part, out, r, h => by cases h; simp
  | c :: t, q, q', part, out, r, h => by
    simp only [scn] at h
    split at h
    · cases h
    · rename_i hc
      rw [List.cons_append, spl, if_neg hc, spl_scn t _ q' _ _ _ h]
      simp
theorem scn_append : ∀ (x y : List UInt8) (q : Nat), scn q (x ++ y) = (scn q x).bind fun q' => scn q' y
  | [], y, q => rfl
  | c :: t, y, q => by
    simp only [List.cons_append, scn]
    split
    · rfl
    · exact scn_append t y _
structure Good (x : List UInt8) : Prop where
  bal : scn 0 x = some 0
  trim : trimL x = x
  ne : x ≠ []

theorem scn_in_blank : ∀ (b : List UInt8) (q : Nat), (q = 1 ∨ q = 2) → (∀ c ∈ b, blkU c = true) → scn q b ≠ some 0
  | [], q, hq, _ => by simp [scn]; omega
  | c :: r, q, hq, hb => by
    have hc := hb c (by simp)
    have h1 : c ≠ 34 ∧ c ≠ 92 := by
      refine ⟨?_, ?_⟩ <;> (rintro rfl; revert hc; decide)
    have h0 : ¬ (q = 0 ∧ c = 44) := fun h => by omega
    have hn : nxt q c = 1 := by rcases hq with rfl | rfl <;> simp [nxt, h1]
    simp only [scn, if_neg h0, hn]
    exact scn_in_blank r 1 (.inl rfl) (fun d hd => hb d (by simp [hd]))
theorem scn_out_blank : ∀ (b : List UInt8), (∀ c ∈ b, blkU c = true) → scn 0 b = some 0
  | [], _ => rfl
  | c :: r, hb => by
    have hc := hb c (by simp)
    have h1 : c ≠ 34 ∧ c ≠ 44 := by
      refine ⟨?_, ?_⟩ <;> (rintro rfl; revert hc; decide)
    simp only [scn, h1.2, and_false, if_false, nxt_out h1.1]
    exact scn_out_blank r (fun d hd => hb d (by simp [hd]))
theorem scn_lt : ∀ (x : List UInt8) (q q' : Nat), q < 3 → scn q x = some q' → q' < 3
  | [], q, q', hq, h => by cases h; exact hq
  | c :: r, q, q', hq, h => by
    simp only [scn] at h
    split at h
    · cases h
    · exact scn_lt r _ _ (nxt_lt q c) h

theorem mem_takeWhile {p : UInt8 → Bool} : ∀ {l : List UInt8} {c : UInt8}, c ∈ l.takeWhile p → p c = true
  | [], c, h => by cases h
  | a :: r, c, h => by
    by_cases ha : p a = true
    · rw [List.takeWhile_cons_of_pos ha, List.mem_cons] at h
      rcases h with rfl | h
      · exact ha
      · exact mem_takeWhile h
    · rw [List.takeWhile_cons_of_neg ha] at h; cases h
theorem trim_parts (x : List UInt8) : ∃ a b, (∀ c ∈ a, blkU c = true) ∧ (∀ c ∈ b, blkU c = true) ∧ x = a ++ trimL x ++ b := by
  refine ⟨x.takeWhile blkU, ((x.dropWhile blkU).reverse.takeWhile blkU).reverse, fun c hc => mem_takeWhile hc, fun c hc => mem_takeWhile (List.mem_reverse.1 hc), ?_⟩
  unfold trimL rdw
  rw [List.append_assoc, ← List.reverse_append, List.takeWhile_append_dropWhile, List.reverse_reverse, List.takeWhile_append_dropWhile]
theorem trim_idem (x : List UInt8) : trimL (trimL x) = trimL x := trim_of_edge (trim_edge x)
theorem trim_len (x : List UInt8) : (trimL x).length ≤ x.length := by
  obtain ⟨a, b, _, _, h⟩ := trim_parts x
  have := congrArg List.length h
  simp only [List.length_append] at this
  omega
theorem good_trim {x : List UInt8} (h : scn 0 x = some 0) (hn : trimL x ≠ []) : Good (trimL x) := by
  refine ⟨?_, trim_idem x, hn⟩
  obtain ⟨a, b, ha, hb, e⟩ := trim_parts x
  rw [e, scn_append, scn_append, scn_out_blank a ha] at h
  simp only [Option.bind_some] at h
  cases hq : scn 0 (trimL x) with
  | none => rw [hq] at h; cases h
  | some q =>
    rw [hq] at h
    simp only [Option.bind_some] at h
    have := scn_lt _ _ _ (by omega) hq
    by_cases h0 : q = 0
    · rw [h0]
    · exact absurd h (scn_in_blank b q (by omega) hb)

theorem addE_good {out : List (List UInt8)} {part : List UInt8} {B : Nat} (hp : scn 0 part = some 0) (hl : part.length ≤ B) (h : ∀ x ∈ out, Good x ∧ x.length ≤ B) : ∀ x ∈ addE out part, Good x ∧ x.length ≤ B := by
  intro x hx
  unfold addE at hx
  split at hx
  · exact h x hx
  · rename_i hn
    rw [List.mem_append] at hx
    rcases hx with hx | hx
    · exact h x hx
    · rw [List.mem_singleton] at hx
      subst hx
      exact ⟨good_trim hp hn, Nat.le_trans (trim_len part) hl⟩
theorem addE_len (out : List (List UInt8)) (part : List UInt8) : (addE out part).length ≤ out.length + 1 := by
  unfold addE; split <;> simp
theorem spl_good {B : Nat} : ∀ (l : List UInt8) (q : Nat) (part : List UInt8) (out L : List (List UInt8)), spl q part out l = some L → scn 0 part = some q → part.length + l.length ≤ B → (∀ x ∈ out, Good x ∧ x.length ≤ B) →
    (∀ x ∈ L, Good x ∧ x.length ≤ B) ∧ L.length ≤ out.length + l.length + 1
  | [], q, part, out, L, h, hp, hl, ho => by
    simp only [spl] at h
    split at h
    · rename_i h0
      subst h0
      cases h
      exact ⟨addE_good hp (by simpa using hl) ho, by have := addE_len out part; simp; omega⟩
    · cases h
  | c :: r, q, part, out, L, h, hp, hl, ho => by
    simp only [List.length_cons] at hl
    simp only [spl] at h
    split at h
    · rename_i hc
      obtain ⟨rfl, rfl⟩ := hc
      have := spl_good r 0 [] _ L h rfl (by simp; omega) (addE_good hp (by omega) ho)
      have h2 := addE_len out part
      exact ⟨this.1, by simp; omega⟩
    · rename_i hc
      have := spl_good r _ _ out L h (by rw [scn_append, hp]; simp [scn, hc]) (by simp; omega) ho
      exact ⟨this.1, by simp; omega⟩
theorem split_good {l : List UInt8} {L : List (List UInt8)} (h : splitL l = some L) : (∀ x ∈ L, Good x ∧ x.length ≤ l.length) ∧ L.length ≤ l.length + 1 := by
  have := spl_good (B := l.length) l 0 [] [] L h rfl (by simp) (fun x hx => by cases hx)
  simpa using this

/-! ### What is joined is split again -/
theorem dw_space (y : List UInt8) : (32 :: y : List UInt8).dropWhile blkU = y.dropWhile blkU := List.dropWhile_cons_of_pos (by decide)
theorem spl_tail : ∀ (r : List (List UInt8)) (part : List UInt8) (out : List (List UInt8)), (∀ x ∈ r, Good x) → spl 0 part out (Lib.joinTail [44, 32] r) = some (addE out part ++ r)
  | [], part, out, _ => by simp [Lib.joinTail, spl]
  | y :: r, part, out, h => by
    have hy := h y (by simp)
    have e : Lib.joinTail [44, 32] (y :: r) = 44 :: 32 :: (y ++ Lib.joinTail [44, 32] r) := by simp [Lib.joinTail]
    have n32 : nxt 0 32 = 0 := by decide
    rw [e]
    simp only [spl, and_self, if_true]
    rw [if_neg (by decide), n32, spl_scn y 0 0 _ _ _ hy.bal, spl_tail r _ _ (fun x hx => h x (by simp [hx]))]
    have ht : trimL (32 :: y) = y := by unfold trimL; rw [dw_space]; exact hy.trim
    simp [addE, ht, hy.ne]
theorem split_join {L : List (List UInt8)} (h : ∀ x ∈ L, Good x) : splitL (Lib.join L [44, 32]) = some L := by
  cases L with
  | nil => simp [Lib.join_nil, splitL, spl, addE_nil]
  | cons x r =>
    have hx := h x (by simp)
    rw [Lib.join_cons]
    unfold splitL
    rw [spl_scn x 0 0 _ _ _ hx.bal, spl_tail r _ _ (fun y hy => h y (by simp [hy]))]
    simp [addE, hx.trim, hx.ne]
theorem join_le (L : List (List UInt8)) (n B : Nat) (hn : L.length ≤ n) (h : ∀ x ∈ L, x.length ≤ B) : (Lib.join L [44, 32]).length ≤ n * (B + 2) := by
  cases L with
  | nil => simp [Lib.join_nil]
  | cons x r =>
    rw [Lib.join_length]
    have : ∀ l : List (List UInt8), (∀ x ∈ l, x.length ≤ B) → Lib.lens l ≤ l.length * B := by
      intro l hl
      induction l with
      | nil => simp [Lib.lens]
      | cons a r ih =>
        have h1 := ih (fun x hx => hl x (by simp [hx]))
        have h2 := hl a (by simp)
        simp only [Lib.lens, List.map_cons, List.sum_cons, List.length_cons, Nat.succ_mul] at h1 ⊢
        omega
    have h1 := this _ h
    simp only [List.length_cons] at hn h1 ⊢
    have h2 : (r.length + 1) * B ≤ n * B := Nat.mul_le_mul_right B hn
    rw [Nat.mul_add]
    simp
    omega

/-! ### Quoted texts -/
def escB (c : UInt8) : List UInt8 := if c = 34 ∨ c = 92 then [92, c] else [c]
def escL (l : List UInt8) : List UInt8 := l.flatMap escB
def quoteL (l : List UInt8) : List UInt8 := 34 :: (escL l ++ [34])
theorem escL_snoc (l : List UInt8) (c : UInt8) : escL (l ++ [c]) = escL l ++ escB c := by simp [escL]
theorem escL_len (l : List UInt8) : (escL l).length ≤ 2 * l.length := by
  induction l with
  | nil => simp [escL]
  | cons a r ih =>
    have : (escB a).length ≤ 2 := by unfold escB; split <;> simp
    simp only [escL, List.flatMap_cons, List.length_append, List.length_cons] at ih ⊢
    omega
theorem quoteL_len (l : List UInt8) : (quoteL l).length ≤ 2 * l.length + 2 := by
  have := escL_len l
  simp [quoteL]; omega

def unqR (q : Nat) (t : List UInt8) : List UInt8 → Option (List UInt8)
  | [] => none
  | c :: r => if q = 1 ∧ c = 34 then (if r = [] then some t else none) else if q = 1 ∧ c = 92 then unqR 2 t r else unqR 1 (t ++ [c]) r
def unqL : List UInt8 → Option (List UInt8)
  | [] => none
  | c :: r => if c = 34 then unqR 1 [] r else none
def unqO (l : List UInt8) : List UInt8 := (unqL l).getD []
def unqE (l : List UInt8) : Int := if (unqL l).isSome then 0 else 5
/-- What stands within a quoted part, without the backslashes that bytes belong to. -/
def unesc (q : Nat) : List UInt8 → List UInt8
  | [] => []
  | c :: r => if q = 1 ∧ c = 92 then unesc 2 r else c :: unesc 1 r
/-- No quoted part ends here, and no backslash is left over. -/
def inn (q : Nat) : List UInt8 → Bool
  | [] => decide (q = 1)
  | c :: r => decide (nxt q c ≠ 0) && inn (nxt q c) r

theorem unq_esc : ∀ (l t : List UInt8), unqR 1 t (escL l ++ [34]) = some (t ++ l)
  | [], t => by simp [escL, unqR]
  | c :: r, t => by
    have ih := unq_esc r (t ++ [c])
    by_cases h : c = 34 ∨ c = 92
    · have e : escL (c :: r) = 92 :: c :: escL r := by simp [escL, escB, h]
      rw [e]
      simp only [List.cons_append, unqR]
      simp
      rw [ih]; simp
    · have e : escL (c :: r) = c :: escL r := by simp [escL, escB, h]
      have h1 : ¬ c = 34 := fun k => h (.inl k)
      have h2 : ¬ c = 92 := fun k => h (.inr k)
      rw [e]
      simp only [List.cons_append, unqR, h1, h2, and_false, if_false]
      rw [ih]; simp
theorem unq_quote (l : List UInt8) : unqL (quoteL l) = some l := by
  simp only [quoteL, unqL, if_true]
  rw [unq_esc]; simp
theorem scn_esc : ∀ (l r : List UInt8), scn 1 (escL l ++ r) = scn 1 r
  | [], r => by simp [escL]
  | c :: t, r => by
    have ih := scn_esc t r
    by_cases h : c = 34 ∨ c = 92
    · have e : escL (c :: t) = 92 :: c :: escL t := by simp [escL, escB, h]
      rw [e]
      simp [scn, nxt_esc, nxt_two, ih]
    · have e : escL (c :: t) = c :: escL t := by simp [escL, escB, h]
      have h1 : ¬ c = 34 := fun k => h (.inl k)
      have h2 : ¬ c = 92 := fun k => h (.inr k)
      rw [e]
      simp [scn, nxt_in h1 h2, ih]
theorem rdw_end (l : List UInt8) (c : UInt8) (h : blkU c = false) : rdw (l ++ [c]) = l ++ [c] := rdw_snoc_no l c h
theorem good_quote (l : List UInt8) : Good (quoteL l) := by
  refine ⟨?_, ?_, by simp [quoteL]⟩
  · show scn 0 (34 :: (escL l ++ [34])) = some 0
    simp only [scn]
    rw [if_neg (by decide), nxt_open, scn_esc]
    simp [scn, nxt_close]
  · unfold trimL quoteL
    rw [List.dropWhile_cons_of_neg (by decide), ← List.cons_append, rdw_end _ _ (by decide)]
theorem split_quote (l : List UInt8) : splitL (quoteL l) = some [quoteL l] := by
  have := split_join (L := [quoteL l]) (fun x hx => by rw [List.mem_singleton] at hx; subst hx; exact good_quote l)
  rwa [Lib.join_one] at this

/-! ### Tokens -/
def tokL (l : List UInt8) : Bool := !l.isEmpty && allB tokB l
theorem tok_plain (c : UInt8) (h : tokB (c.toNat : Int) = true) : c ≠ 34 ∧ c ≠ 44 ∧ c ≠ 61 ∧ blkU c = false := by
  have : ∀ n : Nat, n < 256 → tokB ((UInt8.ofNat n).toNat : Int) = true → UInt8.ofNat n ≠ 34 ∧ UInt8.ofNat n ≠ 44 ∧ UInt8.ofNat n ≠ 61 ∧ blkU (UInt8.ofNat n) = false := by decide +kernel
  have h2 := this c.toNat c.toNat_lt
  rw [UInt8.ofNat_toNat] at h2
  exact h2 h
theorem tok_scn : ∀ (l : List UInt8), allB tokB l = true → scn 0 l = some 0
  | [], _ => rfl
  | c :: r, h => by
    simp only [allB, List.all_cons, Bool.and_eq_true] at h
    have hc := tok_plain c h.1
    simp only [scn, hc.2.1, and_false, if_false, nxt_out hc.1]
    exact tok_scn r h.2
theorem good_tok {l : List UInt8} (h : tokL l = true) : Good l := by
  unfold tokL at h
  simp only [Bool.and_eq_true, Bool.not_eq_true', List.isEmpty_eq_false_iff] at h
  have hb : ∀ c ∈ l, blkU c = false := fun c hc => (tok_plain c ((List.all_eq_true.1 h.2) c hc)).2.2.2
  refine ⟨tok_scn l h.2, ?_, h.1⟩
  have h1 : l.dropWhile blkU = l := by
    cases l with
    | nil => rfl
    | cons a r => exact List.dropWhile_cons_of_neg (by rw [hb a (by simp)]; decide)
  unfold trimL
  rw [h1]
  unfold rdw
  cases hr : l.reverse with
  | nil => rw [List.reverse_eq_nil_iff] at hr; rw [hr]; rfl
  | cons a r =>
    have ha : a ∈ l := by rw [← List.mem_reverse, hr]; simp
    rw [List.dropWhile_cons_of_neg (by rw [hb a ha]; decide), ← hr, List.reverse_reverse]

/-! ### Unquoting by the place of the part's end -/
theorem unq_qEnd : ∀ (l : List UInt8) (q : Nat) (t : List UInt8), (q = 1 ∨ q = 2) → unqR q t l = if qEnd q l = some l.length then some (t ++ unesc q l.dropLast) else none
  | [], q, t, _ => by simp [unqR, qEnd]
  | c :: r, q, t, hq => by
    by_cases h34 : q = 1 ∧ c = 34
    · obtain ⟨rfl, rfl⟩ := h34
      simp only [unqR, qEnd, and_self, if_true, nxt_close]
      cases r with
      | nil => simp [unesc]
      | cons d s => simp
    · have hz : nxt q c ≠ 0 := by
        rcases hq with rfl | rfl
        · have h : c ≠ 34 := fun h => h34 ⟨rfl, h⟩
          unfold nxt; simp [h]; split <;> omega
        · simp [nxt]
      have hc : qEnd q (c :: r) = some (c :: r).length ↔ qEnd (nxt q c) r = some r.length := by
        simp [qEnd, hz]
      by_cases h92 : q = 1 ∧ c = 92
      · obtain ⟨rfl, rfl⟩ := h92
        simp only [hc, unqR, and_self, if_true, nxt_esc]
        rw [if_neg (by decide), unq_qEnd r 2 t (.inr rfl)]
        cases r with
        | nil => simp [qEnd]
        | cons d s => simp [unesc]
      · have hn : nxt q c = 1 := by
          rcases hq with rfl | rfl
          · exact nxt_in (fun h => h34 ⟨rfl, h⟩) (fun h => h92 ⟨rfl, h⟩)
          · rfl
        simp only [hc, hn, unqR, if_neg h34, if_neg h92]
        rw [unq_qEnd r 1 _ (.inl rfl)]
        cases r with
        | nil => simp [qEnd]
        | cons d s => simp [unesc, h92]
theorem inn_qEnd : ∀ (l : List UInt8) (q : Nat), (q = 1 ∨ q = 2) → qEnd q l = some l.length → inn q l.dropLast = true
  | [], q, _, h => by cases h
  | [c], q, hq, h => by
    simp only [List.dropLast_singleton, inn, decide_eq_true_eq]
    simp only [qEnd] at h
    split at h
    · rcases hq with rfl | rfl
      · rfl
      · simp [nxt] at *
    · simp at h
  | c :: d :: s, q, hq, h => by
    simp only [List.dropLast_cons_cons, inn]
    simp only [qEnd] at h
    split at h
    · simp at h
    · rename_i hz
      have hl := nxt_lt q c
      have h2 : qEnd (nxt q c) (d :: s) = some (d :: s).length := by
        rw [Option.map_eq_some_iff] at h
        obtain ⟨m, hm, e⟩ := h
        simp only [List.length_cons] at e ⊢
        rw [show s.length + 1 = m by omega]
        exact hm
      simp only [Bool.and_eq_true, decide_eq_true_eq]
      exact ⟨hz, inn_qEnd (d :: s) _ (by omega) h2⟩

end Go.Proofs.YtfmaaghmbnhikaaGreatDoor
end
