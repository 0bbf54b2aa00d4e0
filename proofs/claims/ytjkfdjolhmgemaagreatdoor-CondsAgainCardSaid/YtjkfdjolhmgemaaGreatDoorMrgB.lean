/-
  Texts that the laws of this seat lean on, one behind the other.
-/
import Derived.WalkKit
import Derived.Below
import Derived.Lib.LaidTab
import Derived.Sort.Grow
import Derived.Deep.Draws
import Derived.Lib.Strings
import Derived.Test.YtjkfdjolhmgemaaGreatDoorMrgA
import Derived.Lib.Join
set_option linter.unusedSimpArgs false
set_option linter.unusedVariables false
/-
  Small lemmas on worlds and endings that all layers use.
-/
section
namespace Go.Proofs.YtjkfdjolhmgemaaGreatDoor
open Go.RowKit

theorem below_then {w a b : World} (h : Below w.heap.size w a) (k : Below a.heap.size a b) : Below w.heap.size w b := h.trans (k.mono h.size)
theorem below_drawn {B : Nat} {a w : World} (h : Below B a w) (n : Nat) : Below B a (w.drewN n) := ⟨h.os, h.tape, h.output, h.size, h.block⟩
theorem below_grow (w : World) (k : Nat) (os : Array Obj) : Below w.heap.size w (Sort.grow (w.drewN k) os) :=
  ⟨rfl, rfl, rfl, by simp [Sort.grow, World.drewN], fun i hi => by
    show ((w.drewN k).heap ++ os)[i]? = _
    rw [Array.getElem?_append, if_pos (show i < (w.drewN k).heap.size from hi)]
    rfl⟩
/-- A library's table reads as it did behind a call that only makes memory. -/
theorem tab_below {P : Program} {n : String} {k : IntKind} {zs : List Int} {w w' : World} (h : Lib.TabIs P w n k zs) (hb : Below w.heap.size w w') : Lib.TabIs P w' n k zs := by
  unfold Lib.TabIs World.var? at h ⊢
  cases hg : P.globalNamed n with
  | none => rw [hg] at h; simp at h
  | some g =>
    rw [hg] at h
    simp only [Option.bind_some] at h ⊢
    have hlt : g < w.heap.size := by
      rcases Nat.lt_or_ge g w.heap.size with h' | h'
      · exact h'
      · rw [Array.getElem?_eq_none h'] at h; cases h
    rw [hb.block g hlt]
    exact h

theorem cell_kept {w w' : World} (hb : Below w.heap.size w w') {a : Addr} {v : Value} (hc : w.cell? a = some v) : w'.cell? a = some v := (hb.cell (World.block_lt_of_cell? w a hc)).trans hc

theorem ret_bool {a b : Bool} (h : a = b) : Ending.returned (.bool a) = .returned (.bool b) := by rw [h]
theorem ret_str {a b : ByteArray} (h : a = b) : Ending.returned (.string a) = .returned (.string b) := by rw [h]
theorem ret_int_int {k l : IntKind} {a b c d : Int} (h : a = b) (e : c = d) : Ending.returned (.tuple #[.int k a, .int l c]) = .returned (.tuple #[.int k b, .int l d]) := by rw [h, e]

/-- Four results. -/
theorem results_tmp4 {fn : Func} {t u v x : Tmp} (h : fn.results = #[.tmp t, .tmp u, .tmp v, .tmp x]) (tmps : Array Value) (P : Program) (w : World) :
    (results fn tmps).run P w = .ok (.tuple #[tmps.getD t undef, tmps.getD u undef, tmps.getD v undef, tmps.getD x undef]) w := by
  simp [results, h]

theorem mkS_append (a b : List UInt8) : mkS a ++ mkS b = mkS (a ++ b) := by
  refine mkS_eq ?_
  rw [ByteArray.data_append]; simp [mkS]
theorem append_list (a b : ByteArray) : (a ++ b).data.toList = a.data.toList ++ b.data.toList := by rw [ByteArray.data_append]; simp

end Go.Proofs.YtjkfdjolhmgemaaGreatDoor
end

/-
  Plain functions on lists, without the program: the elements of a comma-separated list, quoted texts, and small facts about them (P6.1, P6.2, P6.4).
-/
section
namespace Go.Proofs.YtjkfdjolhmgemaaGreatDoor

/-! ### Quoted parts: state 0 outside, 1 within, 2 behind a backslash within -/
def nxt (q : Nat) (c : UInt8) : Nat := if q = 2 then 1 else if q = 1 then (if c = 34 then 0 else if c = 92 then 2 else 1) else (if c = 34 then 1 else 0)
theorem nxt_two (c : UInt8) : nxt 2 c = 1 := rfl
theorem nxt_close : nxt 1 34 = 0 := rfl
theorem nxt_esc : nxt 1 92 = 2 := rfl
theorem nxt_in {c : UInt8} (h : c ≠ 34) (k : c ≠ 92) : nxt 1 c = 1 := by simp [nxt, h, k]
theorem nxt_open : nxt 0 34 = 1 := rfl
theorem nxt_out {c : UInt8} (h : c ≠ 34) : nxt 0 c = 0 := by simp [nxt, h]
theorem nxt_lt (q : Nat) (c : UInt8) : nxt q c < 3 := by
  unfold nxt
  repeat' split
  all_goals omega

def addE (out : List (List UInt8)) (part : List UInt8) : List (List UInt8) := if trimL part = [] then out else out ++ [trimL part]
def spl (q : Nat) (part : List UInt8) (out : List (List UInt8)) : List UInt8 → Option (List (List UInt8))
  | [] => if q = 0 then some (addE out part) else none
  | c :: r => if q = 0 ∧ c = 44 then spl 0 [] (addE out part) r else spl (nxt q c) (part ++ [c]) out r
def splitL (l : List UInt8) : Option (List (List UInt8)) := spl 0 [] [] l
def splO (l : List UInt8) : List (List UInt8) := (splitL l).getD []
def splE (l : List UInt8) : Int := if (splitL l).isSome then 0 else 5
theorem mkS_empty (l : List UInt8) : (mkS l).toList.isEmpty = l.isEmpty := by rw [Lib.toList_data, mkS_list]
theorem trim_nil : trimL [] = [] := rfl
theorem addE_nil (out : List (List UInt8)) : addE out [] = out := by simp [addE, trim_nil]

/-- How many bytes the rest of a quoted part takes. -/
def qEnd (q : Nat) : List UInt8 → Option Nat
  | [] => none
  | c :: r => if nxt q c = 0 then some 1 else (qEnd (nxt q c) r).map (· + 1)
/-- How many bytes an element takes. -/
def eEnd (q : Nat) : List UInt8 → Option Nat
  | [] => if q = 0 then some 0 else none
  | c :: r => if q = 0 ∧ c = 44 then some 0 else (eEnd (nxt q c) r).map (· + 1)

theorem eEnd_in : ∀ (l : List UInt8) (q : Nat), (q = 1 ∨ q = 2) → eEnd q l = (qEnd q l).bind fun n => (eEnd 0 (l.drop n)).map (· + n)
  | [], q, hq => by
    have : q ≠ 0 := by omega
    simp [eEnd, qEnd, this]
  | c :: r, q, hq => by
    have h0 : ¬ (q = 0 ∧ c = 44) := fun h => by omega
    have hl := nxt_lt q c
    by_cases hz : nxt q c = 0
    · simp [eEnd, qEnd, h0, hz]
    · have ih := eEnd_in r (nxt q c) (by omega)
      simp only [eEnd, qEnd, if_neg h0, if_neg hz, ih]
      cases qEnd (nxt q c) r with
      | none => rfl
      | some n => simp [Function.comp_def, Nat.add_assoc]

theorem eEnd_le : ∀ (l : List UInt8) (q n : Nat), eEnd q l = some n → n ≤ l.length ∧ (n = l.length ∨ l[n]? = some 44)
  | [], q, n, h => by
    simp only [eEnd] at h
    split at h
    · cases h; simp
    · cases h
  | c :: r, q, n, h => by
    simp only [eEnd] at h
    split at h
    · rename_i hc
      cases h
      simp [hc.2]
    · rw [Option.map_eq_some_iff] at h
      obtain ⟨m, hm, rfl⟩ := h
      have := eEnd_le r _ m hm
      simpa using this
theorem qEnd_le : ∀ (l : List UInt8) (q n : Nat), qEnd q l = some n → 0 < n ∧ n ≤ l.length
  | [], q, n, h => by cases h
  | c :: r, q, n, h => by
    simp only [qEnd] at h
    split at h
    · cases h; simp
    · rw [Option.map_eq_some_iff] at h
      obtain ⟨m, hm, rfl⟩ := h
      have := qEnd_le r _ m hm
      simp; omega

theorem spl_eEnd : ∀ (l : List UInt8) (q : Nat) (part : List UInt8) (out : List (List UInt8)), spl q part out l = (eEnd q l).bind fun n => spl 0 [] (addE out (part ++ l.take n)) (l.drop (n + 1))
  | [], q, part, out => by
    by_cases h : q = 0
    · simp [spl, eEnd, h, addE_nil]
    · simp [spl, eEnd, h]
  | c :: r, q, part, out => by
    by_cases h : q = 0 ∧ c = 44
    · simp [spl, eEnd, h]
    · have ih := spl_eEnd r (nxt q c) (part ++ [c]) out
      simp only [spl, eEnd, if_neg h, ih]
      cases eEnd (nxt q c) r with
      | none => rfl
      | some n => simp

/-- The place behind the quoted part whose rest begins at m; the place of an element's end. -/
def qPos (s : ByteArray) (m : Nat) : Option Nat := (qEnd 1 (s.data.toList.drop m)).map (· + m)
def ePos (s : ByteArray) (m : Nat) : Option Nat := (eEnd 0 (s.data.toList.drop m)).map (· + m)
theorem qPos_none (s : ByteArray) (m : Nat) (h : s.size ≤ m) : qPos s m = none := by
  unfold qPos
  rw [List.drop_eq_nil_of_le (by rw [← Lib.size_eq]; exact h)]; rfl
theorem qPos_close (s : ByteArray) (m : Nat) (h : m < s.size) (hc : s[m] = 34) : qPos s m = some (m + 1) := by
  unfold qPos
  rw [drop_at s m h, hc]
  simp [qEnd, nxt_close]; omega
theorem qPos_esc (s : ByteArray) (m : Nat) (h : m < s.size) (hc : s[m] = 92) : qPos s m = qPos s (m + 2) := by
  unfold qPos
  rw [drop_at s m h, hc]
  by_cases h1 : m + 1 < s.size
  · rw [drop_at s (m + 1) h1]
    simp [qEnd, nxt_esc, nxt_two, Function.comp_def]
    congr 1; funext x; omega
  · rw [List.drop_eq_nil_of_le (by rw [← Lib.size_eq]; omega), List.drop_eq_nil_of_le (by rw [← Lib.size_eq]; omega)]
    simp [qEnd, nxt_esc]
theorem qPos_in (s : ByteArray) (m : Nat) (h : m < s.size) (h1 : s[m] ≠ 34) (h2 : s[m] ≠ 92) : qPos s m = qPos s (m + 1) := by
  unfold qPos
  rw [drop_at s m h]
  simp [qEnd, nxt_in h1 h2, Function.comp_def]
  congr 1; funext x; omega
theorem qPos_le (s : ByteArray) (m e : Nat) (h : qPos s m = some e) : m < e ∧ e ≤ s.size := by
  unfold qPos at h
  rw [Option.map_eq_some_iff] at h
  obtain ⟨n, hn, rfl⟩ := h
  have := qEnd_le _ _ _ hn
  rw [List.length_drop, ← Lib.size_eq] at this
  omega
theorem ePos_end (s : ByteArray) (m : Nat) (h : s.size ≤ m) : ePos s m = some m := by
  unfold ePos
  rw [List.drop_eq_nil_of_le (by rw [← Lib.size_eq]; exact h)]
  simp [eEnd]
theorem ePos_comma (s : ByteArray) (m : Nat) (h : m < s.size) (hc : s[m] = 44) : ePos s m = some m := by
  unfold ePos
  rw [drop_at s m h, hc]
  simp [eEnd]
theorem ePos_out (s : ByteArray) (m : Nat) (h : m < s.size) (h1 : s[m] ≠ 34) (h2 : s[m] ≠ 44) : ePos s m = ePos s (m + 1) := by
  unfold ePos
  rw [drop_at s m h]
  simp [eEnd, nxt_out h1, h2, Function.comp_def]
  congr 1; funext x; omega
theorem ePos_open (s : ByteArray) (m : Nat) (h : m < s.size) (hc : s[m] = 34) : ePos s m = (qPos s (m + 1)).bind (ePos s) := by
  unfold ePos qPos
  rw [drop_at s m h, hc]
  have h0 : ¬ ((0 : Nat) = 0 ∧ (34 : UInt8) = 44) := by decide
  have h1 : eEnd 0 (34 :: s.data.toList.drop (m + 1)) = (eEnd 1 (s.data.toList.drop (m + 1))).map (· + 1) := by rw [eEnd, if_neg h0, nxt_open]
  rw [h1, eEnd_in _ 1 (.inl rfl)]
  cases hq : qEnd 1 (s.data.toList.drop (m + 1)) with
  | none => rfl
  | some n =>
    simp only [Option.map_some, Option.bind_some, List.drop_drop, Option.map_map]
    rw [show m + 1 + n = n + (m + 1) by omega]
    cases eEnd 0 (s.data.toList.drop (n + (m + 1))) with
    | none => rfl
    | some k => simp; omega
theorem ePos_le (s : ByteArray) (m e : Nat) (h : ePos s m = some e) (hm : m ≤ s.size) : m ≤ e ∧ e ≤ s.size := by
  unfold ePos at h
  rw [Option.map_eq_some_iff] at h
  obtain ⟨n, hn, rfl⟩ := h
  have := (eEnd_le _ _ _ hn).1
  rw [List.length_drop, ← Lib.size_eq] at this
  omega
/-- One element more. -/
theorem spl_some (s : ByteArray) (m e : Nat) (out : List (List UInt8)) (h : ePos s m = some e) : spl 0 [] out (s.data.toList.drop m) = spl 0 [] (addE out (piece s m e)) (s.data.toList.drop (e + 1)) := by
  unfold ePos at h
  rw [Option.map_eq_some_iff] at h
  obtain ⟨n, hn, rfl⟩ := h
  rw [spl_eEnd, hn]
  simp only [Option.bind_some, List.nil_append, List.drop_drop]
  unfold piece
  rw [show n + m - m = n by omega, show m + (n + 1) = n + m + 1 by omega]
theorem spl_none (s : ByteArray) (m : Nat) (out : List (List UInt8)) (h : ePos s m = none) : spl 0 [] out (s.data.toList.drop m) = none := by
  unfold ePos at h
  rw [Option.map_eq_none_iff] at h
  rw [spl_eEnd, h]; rfl
theorem spl_end (s : ByteArray) (m : Nat) (out : List (List UInt8)) (h : s.size ≤ m) : spl 0 [] out (s.data.toList.drop m) = some out := by
  rw [List.drop_eq_nil_of_le (by rw [← Lib.size_eq]; exact h)]
  simp [spl, addE_nil]

/-! ### What begins and ends outside of a quoted part, without a comma outside -/
def scn (q : Nat) : List UInt8 → Option Nat
  | [] => some q
  | c :: r => if q = 0 ∧ c = 44 then none else scn (nxt q c) r
theorem scn_append : ∀ (x y : List UInt8) (q : Nat), scn q (x ++ y) = (scn q x).bind fun q' => scn q' y
  | [], y, q => rfl
  | c :: t, y, q => by
    simp only [List.cons_append, scn]
    split
    · rfl
    · exact scn_append t y _
structure Good (x : List UInt8) : Prop where
  bal : scn 0 x = some 0
  trim : trimL x = x
  ne : x ≠ []

theorem scn_in_blank : ∀ (b : List UInt8) (q : Nat), (q = 1 ∨ q = 2) → (∀ c ∈ b, blkU c = true) → scn q b ≠ some 0
  | [], q, hq, _ => by simp [scn]; omega
  | c :: r, q, hq, hb => by
    have hc := hb c (by simp)
    have h1 : c ≠ 34 ∧ c ≠ 92 := by
      refine ⟨?_, ?_⟩ <;> (rintro rfl; revert hc; decide)
    have h0 : ¬ (q = 0 ∧ c = 44) := fun h => by omega
    have hn : nxt q c = 1 := by rcases hq with rfl | rfl <;> simp [nxt, h1]
    simp only [scn, if_neg h0, hn]
    exact scn_in_blank r 1 (.inl rfl) (fun d hd => hb d (by simp [hd]))
theorem scn_out_blank : ∀ (b : List UInt8), (∀ c ∈ b, blkU c = true) → scn 0 b = some 0
  | [], _ => rfl
  | c :: r, hb => by
    have hc := hb c (by simp)
    have h1 : c ≠ 34 ∧ c ≠ 44 := by
      refine ⟨?_, ?_⟩ <;> (rintro rfl; revert hc; decide)
    simp only [scn, h1.2, and_false, if_false, nxt_out h1.1]
    exact scn_out_blank r (fun d hd => hb d (by simp [hd]))
theorem scn_lt : ∀ (x : List UInt8) (q q' : Nat), q < 3 → scn q x = some q' → q' < 3
  | [], q, q', hq, h => by cases h; exact hq
  | c :: r, q, q', hq, h => by
    simp only [scn] at h
    split at h
    · cases h
    · exact scn_lt r _ _ (nxt_lt q c) h

theorem mem_takeWhile {p : UInt8 → Bool} : ∀ {l : List UInt8} {c : UInt8}, c ∈ l.takeWhile p → p c = true
  | [], c, h => by cases h
  | a :: r, c, h => by
    by_cases ha : p a = true
    · rw [List.takeWhile_cons_of_pos ha, List.mem_cons] at h
      rcases h with rfl | h
      · exact ha
      · exact mem_takeWhile h
    · rw [List.takeWhile_cons_of_neg ha] at h; cases h
theorem trim_parts (x : List UInt8) : ∃ a b, (∀ c ∈ a, blkU c = true) ∧ (∀ c ∈ b, blkU c = true) ∧ x = a ++ trimL x ++ b := by
  refine ⟨x.takeWhile blkU, ((x.dropWhile blkU).reverse.takeWhile blkU).reverse, fun c hc => mem_takeWhile hc, fun c hc => mem_takeWhile (List.mem_reverse.1 hc), ?_⟩
  unfold trimL rdw
  rw [List.append_assoc, ← List.reverse_append, List.takeWhile_append_dropWhile, List.reverse_reverse, List.takeWhile_append_dropWhile]
theorem trim_idem (x : List UInt8) : trimL (trimL x) = trimL x := trim_of_edge (trim_edge x)
theorem trim_len (x : List UInt8) : (trimL x).length ≤ x.length := by
  obtain ⟨a, b, _, _, h⟩ := trim_parts x
  have := congrArg List.length h
  simp only [List.length_append] at this
  omega
theorem good_trim {x : List UInt8} (h : scn 0 x = some 0) (hn : trimL x ≠ []) : Good (trimL x) := by
  refine ⟨?_, trim_idem x, hn⟩
  obtain ⟨a, b, ha, hb, e⟩ := trim_parts x
  rw [e, scn_append, scn_append, scn_out_blank a ha] at h
  simp only [Option.bind_some] at h
  cases hq : scn 0 (trimL x) with
  | none => rw [hq] at h; cases h
  | some q =>
    rw [hq] at h
    simp only [Option.bind_some] at h
    have := scn_lt _ _ _ (by omega) hq
    by_cases h0 : q = 0
    · rw [h0]
    · exact absurd h (scn_in_blank b q (by omega) hb)

theorem addE_good {out : List (List UInt8)} {part : List UInt8} {B : Nat} (hp : scn 0 part = some 0) (hl : part.length ≤ B) (h : ∀ x ∈ out, Good x ∧ x.length ≤ B) : ∀ x ∈ addE out part, Good x ∧ x.length ≤ B := by
  intro x hx
  unfold addE at hx
  split at hx
  · exact h x hx
  · rename_i hn
    rw [List.mem_append] at hx
    rcases hx with hx | hx
    · exact h x hx
    · rw [List.mem_singleton] at hx
      subst hx
      exact ⟨good_trim hp hn, Nat.le_trans (trim_len part) hl⟩
theorem addE_len (out : List (List UInt8)) (part : List UInt8) : (addE out part).length ≤ out.length + 1 := by
  unfold addE; split <;> simp
theorem spl_good {B : Nat} : ∀ (l : List UInt8) (q : Nat) (part : List UInt8) (out L : List (List UInt8)), spl q part out l = some L → scn 0 part = some q → part.length + l.length ≤ B → (∀ x ∈ out, Good x ∧ x.length ≤ B) →
    (∀ x ∈ L, Good x ∧ x.length ≤ B) ∧ L.length ≤ out.length + l.length + 1
  | [], q, part, out, L, h, hp, hl, ho => by
    simp only [spl] at h
    split at h
    · rename_i h0
      subst h0
      cases h
      exact ⟨addE_good hp (by simpa using hl) ho, by have := addE_len out part; simp; omega⟩
    · cases h
  | c :: r, q, part, out, L, h, hp, hl, ho => by
    simp only [List.length_cons] at hl
    simp only [spl] at h
    split at h
    · rename_i hc
      obtain ⟨rfl, rfl⟩ := hc
      have := spl_good r 0 [] _ L h rfl (by simp; omega) (addE_good hp (by omega) ho)
      have h2 := addE_len out part
      exact ⟨this.1, by simp; omega⟩
    · rename_i hc
      have := spl_good r _ _ out L h (by rw [scn_append, hp]; simp [scn, hc]) (by simp; omega) ho
      exact ⟨this.1, by simp; omega⟩
theorem split_good {l : List UInt8} {L : List (List UInt8)} (h : splitL l = some L) : (∀ x ∈ L, Good x ∧ x.length ≤ l.length) ∧ L.length ≤ l.length + 1 := by
  have := spl_good (B := l.length) l 0 [] [] L h rfl (by simp) (fun x hx => by cases hx)
  simpa using this

/-! ### What is joined is split again -/
theorem join_le (L : List (List UInt8)) (n B : Nat) (hn : L.length ≤ n) (h : ∀ x ∈ L, x.length ≤ B) : (Lib.join L [44, 32]).length ≤ n * (B + 2) := by
  cases L with
  | nil => simp [Lib.join_nil]
  | cons x r =>
    rw [Lib.join_length]
    have : ∀ l : List (List UInt8), (∀ x ∈ l, x.length ≤ B) → Lib.lens l ≤ l.length * B := by
      intro l hl
      induction l with
      | nil => simp [Lib.lens]
      | cons a r ih =>
        have h1 := ih (fun x hx => hl x (by simp [hx]))
        have h2 := hl a (by simp)
        simp only [Lib.lens, List.map_cons, List.sum_cons, List.length_cons, Nat.succ_mul] at h1 ⊢
        omega
    have h1 := this _ h
    simp only [List.length_cons] at hn h1 ⊢
    have h2 : (r.length + 1) * B ≤ n * B := Nat.mul_le_mul_right B hn
    rw [Nat.mul_add]
    simp
    omega

/-! ### Quoted texts -/
def escB (c : UInt8) : List UInt8 := if c = 34 ∨ c = 92 then [92, c] else [c]
def escL (l : List UInt8) : List UInt8 := l.flatMap escB
def quoteL (l : List UInt8) : List UInt8 := 34 :: (escL l ++ [34])
def unqR (q : Nat) (t : List UInt8) : List UInt8 → Option (List UInt8)
  | [] => none
  | c :: r => if q = 1 ∧ c = 34 then (if r = [] then some t else none) else if q = 1 ∧ c = 92 then unqR 2 t r else unqR 1 (t ++ [c]) r
def unqL : List UInt8 → Option (List UInt8)
  | [] => none
  | c :: r => if c = 34 then unqR 1 [] r else none
def unqO (l : List UInt8) : List UInt8 := (unqL l).getD []
def unqE (l : List UInt8) : Int := if (unqL l).isSome then 0 else 5
/-- What stands within a quoted part, without the backslashes that bytes belong to. -/
def unesc (q : Nat) : List UInt8 → List UInt8
  | [] => []
  | c :: r => if q = 1 ∧ c = 92 then unesc 2 r else c :: unesc 1 r
/-- No quoted part ends here, and no backslash is left over. -/
def inn (q : Nat) : List UInt8 → Bool
  | [] => decide (q = 1)
  | c :: r => decide (nxt q c ≠ 0) && inn (nxt q c) r

/-! ### Tokens -/
def tokL (l : List UInt8) : Bool := !l.isEmpty && allB tokB l
/-! ### Unquoting by the place of the part's end -/
end Go.Proofs.YtjkfdjolhmgemaaGreatDoor
end

/-
  Plain functions on days, without the program: leap years, the days of years and months, the date of a day, its day of the week (P7.1).
-/
section
namespace Go.Proofs.YtjkfdjolhmgemaaGreatDoor

def leapN (y : Nat) : Bool := y % 4 == 0 && (y % 100 != 0 || y % 400 == 0)
def yearN (y : Nat) : Nat := if leapN y then 366 else 365
def longs : List Nat := [31, 28, 31, 30, 31, 30, 31, 31, 30, 31, 30, 31]
def longN (y m : Nat) : Nat := if m = 2 ∧ leapN y = true then 29 else longs.getD (m - 1) 0
/-- The days of the n years from 1970 on; of the first m months of a year. -/
def ysum : Nat → Nat
  | 0 => 0
  | n + 1 => ysum n + yearN (1970 + n)
def msum (y : Nat) : Nat → Nat
  | 0 => 0
  | m + 1 => msum y m + longN y (m + 1)
def daysN (y m d : Nat) : Nat := ysum (y - 1970) + msum y (m - 1) + (d - 1)
structure Valid (y m d : Nat) : Prop where
  y0 : 1970 ≤ y
  y1 : y ≤ 9999
  m0 : 1 ≤ m
  m1 : m ≤ 12
  d0 : 1 ≤ d
  d1 : d ≤ longN y m
/-- The date of a day. -/
structure IsDate (y m d n : Nat) : Prop where
  v : Valid y m d
  e : daysN y m d = n

theorem yearN_cs (y : Nat) : yearN y = 365 ∨ yearN y = 366 := by unfold yearN; split <;> simp
theorem long_bd (y m : Nat) (h0 : 1 ≤ m) (h1 : m ≤ 12) : 28 ≤ longN y m ∧ longN y m ≤ 31 := by
  have h : ∀ k : Nat, k < 12 → 28 ≤ longs.getD k 0 ∧ longs.getD k 0 ≤ 31 := by decide
  have := h (m - 1) (by omega)
  unfold longN
  split <;> omega
theorem msum_year (y : Nat) : msum y 12 = yearN y := by
  cases h : leapN y <;> simp [msum, longN, longs, yearN, h]
theorem ysum_succ (n : Nat) : ysum (n + 1) = ysum n + yearN (1970 + n) := rfl
theorem ysum_mono : ∀ (m k : Nat), ysum m ≤ ysum (m + k)
  | m, 0 => Nat.le_refl _
  | m, k + 1 => by
    have := ysum_mono m k
    rw [← Nat.add_assoc, ysum_succ]
    omega
theorem ysum_le {m n : Nat} (h : m ≤ n) : ysum m ≤ ysum n := by
  have := ysum_mono m (n - m)
  rwa [show m + (n - m) = n by omega] at this
theorem msum_succ (y m : Nat) : msum y (m + 1) = msum y m + longN y (m + 1) := rfl
theorem msum_mono (y : Nat) : ∀ (m k : Nat), msum y m ≤ msum y (m + k)
  | m, 0 => Nat.le_refl _
  | m, k + 1 => by
    have := msum_mono y m k
    rw [← Nat.add_assoc, msum_succ]
    omega
theorem msum_le {y m n : Nat} (h : m ≤ n) : msum y m ≤ msum y n := by
  have := msum_mono y m (n - m)
  rwa [show m + (n - m) = n by omega] at this
theorem ysum_all : ysum 8030 = 2932897 := by decide +kernel

/-- A date's day lies within its year, and within its month. -/
theorem Valid.within {y m d : Nat} (h : Valid y m d) : ysum (y - 1970) ≤ daysN y m d ∧ daysN y m d < ysum (y - 1970 + 1) ∧ msum y (m - 1) + (d - 1) < msum y m := by
  have h1 : msum y m = msum y (m - 1) + longN y m := by
    have := msum_succ y (m - 1)
    rwa [show m - 1 + 1 = m by have := h.m0; omega] at this
  have h2 : msum y m ≤ yearN y := by rw [← msum_year]; exact msum_le h.m1
  have h3 := ysum_succ (y - 1970)
  rw [show 1970 + (y - 1970) = y by have := h.y0; omega] at h3
  have := h.d0
  have := h.d1
  unfold daysN
  omega
theorem IsDate.uniq {y m d y' m' d' n : Nat} (h : IsDate y m d n) (g : IsDate y' m' d' n) : y = y' ∧ m = m' ∧ d = d' := by
  obtain ⟨h1, h2, h3⟩ := h.v.within
  obtain ⟨g1, g2, g3⟩ := g.v.within
  have hy0 := h.v.y0
  have gy0 := g.v.y0
  have hm0 := h.v.m0
  have gm0 := g.v.m0
  have hd0 := h.v.d0
  have gd0 := g.v.d0
  have he := h.e
  have ge := g.e
  have hyy : y = y' := by
    rcases Nat.lt_trichotomy y y' with hlt | rfl | hlt
    · have := ysum_le (show y - 1970 + 1 ≤ y' - 1970 by omega)
      omega
    · rfl
    · have := ysum_le (show y' - 1970 + 1 ≤ y - 1970 by omega)
      omega
  subst hyy
  unfold daysN at he ge
  have hmm : m = m' := by
    rcases Nat.lt_trichotomy m m' with hlt | rfl | hlt
    · have := msum_le (y := y) (show m ≤ m' - 1 by omega)
      omega
    · rfl
    · have := msum_le (y := y) (show m' ≤ m - 1 by omega)
      omega
  subst hmm
  exact ⟨rfl, rfl, by omega⟩

/-- The year of a day and what is left of it; its month and what is left of it. -/
def civY : Nat → Nat → Nat → Nat × Nat
  | 0, y, r => (y, r)
  | f + 1, y, r => if yearN y ≤ r then civY f (y + 1) (r - yearN y) else (y, r)
def civM (y : Nat) : Nat → Nat → Nat → Nat × Nat
  | 0, m, r => (m, r)
  | f + 1, m, r => if longN y m ≤ r then civM y f (m + 1) (r - longN y m) else (m, r)
def civ (n : Nat) : Nat × Nat × Nat :=
  let a := civY 8030 1970 n
  let b := civM a.1 12 1 a.2
  (a.1, b.1, b.2 + 1)
theorem civY_succ (f y r : Nat) : civY (f + 1) y r = if yearN y ≤ r then civY f (y + 1) (r - yearN y) else (y, r) := rfl
theorem civM_succ (y f m r : Nat) : civM y (f + 1) m r = if longN y m ≤ r then civM y f (m + 1) (r - longN y m) else (m, r) := rfl
theorem civY_spec (f : Nat) : ∀ (y r : Nat), 1970 ≤ y → ysum (y - 1970) + r < ysum (y - 1970 + f) → 1970 ≤ (civY f y r).1 ∧ (civY f y r).1 < y + f ∧ ysum ((civY f y r).1 - 1970) + (civY f y r).2 = ysum (y - 1970) + r ∧ (civY f y r).2 < yearN (civY f y r).1 := by
  induction f with
  | zero =>
    intro y r hy h
    rw [Nat.add_zero] at h
    omega
  | succ f ih =>
    intro y r hy h
    have h3 := ysum_succ (y - 1970)
    rw [show 1970 + (y - 1970) = y by omega] at h3
    rw [civY_succ]
    split
    · rename_i hle
      have e : y + 1 - 1970 = y - 1970 + 1 := by omega
      have := ih (y + 1) (r - yearN y) (by omega) (by rw [e, h3, show y - 1970 + 1 + f = y - 1970 + (f + 1) by omega]; omega)
      rw [e, h3] at this
      exact ⟨this.1, by omega, by omega, this.2.2.2⟩
    · exact ⟨hy, by omega, rfl, by simp only; omega⟩
theorem civM_spec (y : Nat) (f : Nat) : ∀ (m r : Nat), 1 ≤ m → msum y (m - 1) + r < msum y (m - 1 + f) → 1 ≤ (civM y f m r).1 ∧ (civM y f m r).1 < m + f ∧ msum y ((civM y f m r).1 - 1) + (civM y f m r).2 = msum y (m - 1) + r ∧ (civM y f m r).2 < longN y (civM y f m r).1 := by
  induction f with
  | zero =>
    intro m r hm h
    rw [Nat.add_zero] at h
    omega
  | succ f ih =>
    intro m r hm h
    have h3 := msum_succ y (m - 1)
    rw [show m - 1 + 1 = m by omega] at h3
    rw [civM_succ]
    split
    · rename_i hle
      have e : m + 1 - 1 = m := by omega
      have h4 : msum y (m + f) = msum y (m - 1 + (f + 1)) := by rw [show m + f = m - 1 + (f + 1) by omega]
      have := ih (m + 1) (r - longN y m) (by omega) (by rw [e, h4]; omega)
      rw [e] at this
      exact ⟨this.1, by omega, by omega, this.2.2.2⟩
    · exact ⟨hm, by omega, rfl, by simp only; omega⟩
theorem civ_date (n : Nat) (h : n ≤ 2932896) : IsDate (civ n).1 (civ n).2.1 (civ n).2.2 n := by
  have h1 := civY_spec 8030 1970 n (by omega) (by rw [show 1970 - 1970 = 0 from rfl, Nat.zero_add, ysum_all]; simp [ysum]; omega)
  have h2 := civM_spec (civY 8030 1970 n).1 12 1 (civY 8030 1970 n).2 (by omega) (by rw [show 1 - 1 = 0 from rfl, Nat.zero_add, msum_year]; simp [msum]; exact h1.2.2.2)
  unfold civ
  refine ⟨⟨h1.1, by have := h1.2.1; simp only; omega, h2.1, by have := h2.2.1; simp only; omega, by simp, by simp only; have := h2.2.2.2; omega⟩, ?_⟩
  unfold daysN
  have e1 := h1.2.2.1
  have e2 := h2.2.2.1
  simp only [ysum, msum, Nat.sub_self, Nat.zero_add] at e1 e2 ⊢
  omega
theorem civ_of {y m d n : Nat} (h : IsDate y m d n) (hn : n ≤ 2932896) : civ n = (y, m, d) := by
  obtain ⟨h1, h2, h3⟩ := (civ_date n hn).uniq h
  rw [← h1, ← h2, ← h3]
theorem Valid.le {y m d : Nat} (h : Valid y m d) : daysN y m d ≤ 2932896 := by
  have h1 := h.within.2.1
  have h2 := ysum_le (show y - 1970 + 1 ≤ 8030 by have := h.y1; omega)
  rw [ysum_all] at h2
  omega
def wdN (n : Int) : Int := if n < 0 then 0 else (n % 7 + 4) % 7

end Go.Proofs.YtjkfdjolhmgemaaGreatDoor
end
