/-
  Texts that the laws of this seat lean on, one behind the other.
-/
import Derived.WalkKit
import Derived.Below
import Derived.Lib.LaidTab
import Derived.Sort.Grow
import Derived.Deep.Draws
import Derived.Lib.Strings
import Derived.Test.YtjcomlklmfeimaaGreatDoorMrgA
import Derived.Lib.Join
import Derived.ScopeJumps
import Derived.WalkMore
import Derived.LaidMore
/-
  Small lemmas on worlds and endings that all layers use.
-/
section
namespace Go.Proofs.YtjcomlklmfeimaaGreatDoor
open Go.RowKit

theorem below_then {w a b : World} (h : Below w.heap.size w a) (k : Below a.heap.size a b) : Below w.heap.size w b := h.trans (k.mono h.size)
theorem below_drawn {B : Nat} {a w : World} (h : Below B a w) (n : Nat) : Below B a (w.drewN n) := ⟨h.os, h.tape, h.output, h.size, h.block⟩
theorem below_grow (w : World) (k : Nat) (os : Array Obj) : Below w.heap.size w (Sort.grow (w.drewN k) os) :=
  ⟨rfl, rfl, rfl, by simp [Sort.grow, World.drewN], fun i hi => by
    show ((w.drewN k).heap ++ os)[i]? = _
    rw [Array.getElem?_append, if_pos (show i < (w.drewN k).heap.size from hi)]
    rfl⟩
/-- A library's table reads as it did behind a call that only makes memory. -/
theorem tab_below {P : Program} {n : String} {k : IntKind} {zs : List Int} {w w' : World} (h : Lib.TabIs P w n k zs) (hb : Below w.heap.size w w') : Lib.TabIs P w' n k zs := by
  unfold Lib.TabIs World.var? at h ⊢
  cases hg : P.globalNamed n with
  | none => rw [hg] at h; simp at h
  | some g =>
    rw [hg] at h
    simp only [Option.bind_some] at h ⊢
    have hlt : g < w.heap.size := by
      rcases Nat.lt_or_ge g w.heap.size with h' | h'
      · exact h'
      · rw [Array.getElem?_eq_none h'] at h; cases h
    rw [hb.block g hlt]
    exact h

theorem cell_kept {w w' : World} (hb : Below w.heap.size w w') {a : Addr} {v : Value} (hc : w.cell? a = some v) : w'.cell? a = some v := (hb.cell (World.block_lt_of_cell? w a hc)).trans hc

theorem wf_i64 {n : Int} (h : (Lit.int .i64 n).wf = true) : -9223372036854775808 ≤ n ∧ n ≤ 9223372036854775807 := by
  have hmin : IntKind.i64.min = -9223372036854775808 := rfl
  have hmax : IntKind.i64.max = 9223372036854775807 := rfl
  simp only [Lit.wf, Bool.and_eq_true, decide_eq_true_eq] at h
  omega

theorem ret_int {k : IntKind} {a b : Int} (h : a = b) : Ending.returned (.int k a) = .returned (.int k b) := by rw [h]
theorem ret_bool {a b : Bool} (h : a = b) : Ending.returned (.bool a) = .returned (.bool b) := by rw [h]
theorem ret_str {a b : ByteArray} (h : a = b) : Ending.returned (.string a) = .returned (.string b) := by rw [h]
theorem ret_int_bool {k : IntKind} {a b : Int} {c d : Bool} (h : a = b) (e : c = d) : Ending.returned (.tuple #[.int k a, .bool c]) = .returned (.tuple #[.int k b, .bool d]) := by rw [h, e]
theorem ret_int_int {k l : IntKind} {a b c d : Int} (h : a = b) (e : c = d) : Ending.returned (.tuple #[.int k a, .int l c]) = .returned (.tuple #[.int k b, .int l d]) := by rw [h, e]

/-- Four results. -/
theorem results_tmp4 {fn : Func} {t u v x : Tmp} (h : fn.results = #[.tmp t, .tmp u, .tmp v, .tmp x]) (tmps : Array Value) (P : Program) (w : World) :
    (results fn tmps).run P w = .ok (.tuple #[tmps.getD t undef, tmps.getD u undef, tmps.getD v undef, tmps.getD x undef]) w := by
  simp [results, h]

theorem mkS_append (a b : List UInt8) : mkS a ++ mkS b = mkS (a ++ b) := by
  refine mkS_eq ?_
  rw [ByteArray.data_append]; simp [mkS]
theorem append_list (a b : ByteArray) : (a ++ b).data.toList = a.data.toList ++ b.data.toList := by rw [ByteArray.data_append]; simp

end Go.Proofs.YtjcomlklmfeimaaGreatDoor
end

/-
  Plain functions on lists, without the program: the elements of a comma-separated list, quoted texts, and small facts about them (P6.1, P6.2, P6.4).
-/
section
namespace Go.Proofs.YtjcomlklmfeimaaGreatDoor

/-! ### Quoted parts: state 0 outside, 1 within, 2 behind a backslash within -/
def nxt (q : Nat) (c : UInt8) : Nat := if q = 2 then 1 else if q = 1 then (if c = 34 then 0 else if c = 92 then 2 else 1) else (if c = 34 then 1 else 0)
theorem nxt_two (c : UInt8) : nxt 2 c = 1 := rfl
theorem nxt_close : nxt 1 34 = 0 := rfl
theorem nxt_esc : nxt 1 92 = 2 := rfl
theorem nxt_in {c : UInt8} (h : c ≠ 34) (k : c ≠ 92) : nxt 1 c = 1 := by simp [nxt, h, k]
theorem nxt_open : nxt 0 34 = 1 := rfl
theorem nxt_out {c : UInt8} (h : c ≠ 34) : nxt 0 c = 0 := by simp [nxt, h]
theorem nxt_lt (q : Nat) (c : UInt8) : nxt q c < 3 := by
  unfold nxt
  repeat' split
  all_goals omega

def addE (out : List (List UInt8)) (part : List UInt8) : List (List UInt8) := if trimL part = [] then out else out ++ [trimL part]
def spl (q : Nat) (part : List UInt8) (out : List (List UInt8)) : List UInt8 → Option (List (List UInt8))
  | [] => if q = 0 then some (addE out part) else none
  | c :: r => if q = 0 ∧ c = 44 then spl 0 [] (addE out part) r else spl (nxt q c) (part ++ [c]) out r
def splitL (l : List UInt8) : Option (List (List UInt8)) := spl 0 [] [] l
def splO (l : List UInt8) : List (List UInt8) := (splitL l).getD []
def splE (l : List UInt8) : Int := if (splitL l).isSome then 0 else 5
theorem mkS_empty (l : List UInt8) : (mkS l).toList.isEmpty = l.isEmpty := by rw [Lib.toList_data, mkS_list]
theorem trim_nil : trimL [] = [] := rfl
theorem addE_nil (out : List (List UInt8)) : addE out [] = out := by simp [addE, trim_nil]

/-- How many bytes the rest of a quoted part takes. -/
def qEnd (q : Nat) : List UInt8 → Option Nat
  | [] => none
  | c :: r => if nxt q c = 0 then some 1 else (qEnd (nxt q c) r).map (· + 1)
/-- How many bytes an element takes. -/
def eEnd (q : Nat) : List UInt8 → Option Nat
  | [] => if q = 0 then some 0 else none
  | c :: r => if q = 0 ∧ c = 44 then some 0 else (eEnd (nxt q c) r).map (· + 1)

theorem eEnd_in : ∀ (l : List UInt8) (q : Nat), (q = 1 ∨ q = 2) → eEnd q l = (qEnd q l).bind fun n => (eEnd 0 (l.drop n)).map (· + n)
  | [], q, hq => by
    have : q ≠ 0 := by omega
    simp [eEnd, qEnd, this]
  | c :: r, q, hq => by
    have h0 : ¬ (q = 0 ∧ c = 44) := fun h => by omega
    have hl := nxt_lt q c
    by_cases hz : nxt q c = 0
    · simp [eEnd, qEnd, h0, hz]
    · have ih := eEnd_in r (nxt q c) (by omega)
      simp only [eEnd, qEnd, if_neg h0, if_neg hz, ih]
      cases qEnd (nxt q c) r with
      | none => rfl
      | some n => simp [Function.comp_def, Nat.add_assoc]

theorem eEnd_le : ∀ (l : List UInt8) (q n : Nat), eEnd q l = some n → n ≤ l.length ∧ (n = l.length ∨ l[n]? = some 44)
  | [], q, n, h => by
    simp only [eEnd] at h
    split at h
    · cases h; simp
    · cases h
  | c :: r, q, n, h => by
    simp only [eEnd] at h
    split at h
    · rename_i hc
      cases h
      simp [hc.2]
    · rw [Option.map_eq_some_iff] at h
      obtain ⟨m, hm, rfl⟩ := h
      have := eEnd_le r _ m hm
      simpa using this
theorem qEnd_le : ∀ (l : List UInt8) (q n : Nat), qEnd q l = some n → 0 < n ∧ n ≤ l.length
  | [], q, n, h => by cases h
  | c :: r, q, n, h => by
    simp only [qEnd] at h
    split at h
    · cases h; simp
    · rw [Option.map_eq_some_iff] at h
      obtain ⟨m, hm, rfl⟩ := h
      have := qEnd_le r _ m hm
      simp; omega

theorem spl_eEnd : ∀ (l : List UInt8) (q : Nat) (part : List UInt8) (out : List (List UInt8)), spl q part out l = (eEnd q l).bind fun n => spl 0 [] (addE out (part ++ l.take n)) (l.drop (n + 1))
  | [], q, part, out => by
    by_cases h : q = 0
    · simp [spl, eEnd, h, addE_nil]
    · simp [spl, eEnd, h]
  | c :: r, q, part, out => by
    by_cases h : q = 0 ∧ c = 44
    · simp [spl, eEnd, h]
    · have ih := spl_eEnd r (nxt q c) (part ++ [c]) out
      simp only [spl, eEnd, if_neg h, ih]
      cases eEnd (nxt q c) r with
      | none => rfl
      | some n => simp

/-- The place behind the quoted part whose rest begins at m; the place of an element's end. -/
def qPos (s : ByteArray) (m : Nat) : Option Nat := (qEnd 1 (s.data.toList.drop m)).map (· + m)
def ePos (s : ByteArray) (m : Nat) : Option Nat := (eEnd 0 (s.data.toList.drop m)).map (· + m)
theorem qPos_none (s : ByteArray) (m : Nat) (h : s.size ≤ m) : qPos s m = none := by
  unfold qPos
  rw [List.drop_eq_nil_of_le (by rw [← Lib.size_eq]; exact h)]; rfl
theorem qPos_close (s : ByteArray) (m : Nat) (h : m < s.size) (hc : s[m] = 34) : qPos s m = some (m + 1) := by
  unfold qPos
  rw [drop_at s m h, hc]
  simp [qEnd, nxt_close]; omega
theorem qPos_esc (s : ByteArray) (m : Nat) (h : m < s.size) (hc : s[m] = 92) : qPos s m = qPos s (m + 2) := by
  unfold qPos
  rw [drop_at s m h, hc]
  by_cases h1 : m + 1 < s.size
  · rw [drop_at s (m + 1) h1]
    simp [qEnd, nxt_esc, nxt_two, Function.comp_def]
    congr 1; funext x; omega
  · rw [List.drop_eq_nil_of_le (by rw [← Lib.size_eq]; omega), List.drop_eq_nil_of_le (by rw [← Lib.size_eq]; omega)]
    simp [qEnd, nxt_esc]
theorem qPos_in (s : ByteArray) (m : Nat) (h : m < s.size) (h1 : s[m] ≠ 34) (h2 : s[m] ≠ 92) : qPos s m = qPos s (m + 1) := by
  unfold qPos
  rw [drop_at s m h]
  simp [qEnd, nxt_in h1 h2, Function.comp_def]
  congr 1; funext x; omega
theorem qPos_le (s : ByteArray) (m e : Nat) (h : qPos s m = some e) : m < e ∧ e ≤ s.size := by
  unfold qPos at h
  rw [Option.map_eq_some_iff] at h
  obtain ⟨n, hn, rfl⟩ := h
  have := qEnd_le _ _ _ hn
  rw [List.length_drop, ← Lib.size_eq] at this
  omega
theorem ePos_end (s : ByteArray) (m : Nat) (h : s.size ≤ m) : ePos s m = some m := by
  unfold ePos
  rw [List.drop_eq_nil_of_le (by rw [← Lib.size_eq]; exact h)]
  simp [eEnd]
theorem ePos_comma (s : ByteArray) (m : Nat) (h : m < s.size) (hc : s[m] = 44) : ePos s m = some m := by
  unfold ePos
  rw [drop_at s m h, hc]
  simp [eEnd]
theorem ePos_out (s : ByteArray) (m : Nat) (h : m < s.size) (h1 : s[m] ≠ 34) (h2 : s[m] ≠ 44) : ePos s m = ePos s (m + 1) := by
  unfold ePos
  rw [drop_at s m h]
  simp [eEnd, nxt_out h1, h2, Function.comp_def]
  congr 1; funext x; omega
theorem ePos_open (s : ByteArray) (m : Nat) (h : m < s.size) (hc : s[m] = 34) : ePos s m = (qPos s (m + 1)).bind (ePos s) := by
  unfold ePos qPos
  rw [drop_at s m h, hc]
  have h0 : ¬ ((0 : Nat) = 0 ∧ (34 : UInt8) = 44) := by decide
  have h1 : eEnd 0 (34 :: s.data.toList.drop (m + 1)) = (eEnd 1 (s.data.toList.drop (m + 1))).map (· + 1) := by rw [eEnd, if_neg h0, nxt_open]
  rw [h1, eEnd_in _ 1 (.inl rfl)]
  cases hq : qEnd 1 (s.data.toList.drop (m + 1)) with
  | none => rfl
  | some n =>
    simp only [Option.map_some, Option.bind_some, List.drop_drop, Option.map_map]
    rw [show m + 1 + n = n + (m + 1) by omega]
    cases eEnd 0 (s.data.toList.drop (n + (m + 1))) with
    | none => rfl
    | some k => simp; omega
theorem ePos_le (s : ByteArray) (m e : Nat) (h : ePos s m = some e) (hm : m ≤ s.size) : m ≤ e ∧ e ≤ s.size := by
  unfold ePos at h
  rw [Option.map_eq_some_iff] at h
  obtain ⟨n, hn, rfl⟩ := h
  have := (eEnd_le _ _ _ hn).1
  rw [List.length_drop, ← Lib.size_eq] at this
  omega
/-- One element more. -/
theorem spl_some (s : ByteArray) (m e : Nat) (out : List (List UInt8)) (h : ePos s m = some e) : spl 0 [] out (s.data.toList.drop m) = spl 0 [] (addE out (piece s m e)) (s.data.toList.drop (e + 1)) := by
  unfold ePos at h
  rw [Option.map_eq_some_iff] at h
  obtain ⟨n, hn, rfl⟩ := h
  rw [spl_eEnd, hn]
  simp only [Option.bind_some, List.nil_append, List.drop_drop]
  unfold piece
  rw [show n + m - m = n by omega, show m + (n + 1) = n + m + 1 by omega]
theorem spl_none (s : ByteArray) (m : Nat) (out : List (List UInt8)) (h : ePos s m = none) : spl 0 [] out (s.data.toList.drop m) = none := by
  unfold ePos at h
  rw [Option.map_eq_none_iff] at h
  rw [spl_eEnd, h]; rfl
theorem spl_end (s : ByteArray) (m : Nat) (out : List (List UInt8)) (h : s.size ≤ m) : spl 0 [] out (s.data.toList.drop m) = some out := by
  rw [List.drop_eq_nil_of_le (by rw [← Lib.size_eq]; exact h)]
  simp [spl, addE_nil]

/-! ### What begins and ends outside of a quoted part, without a comma outside -/
def scn (q : Nat) : List UInt8 → Option Nat
  | [] => some q
  | c :: r => if q = 0 ∧ c = 44 then none else scn (nxt q c) r
theorem spl_scn : ∀ (x : List UInt8) (q q' : Nat) (part : List UInt8) (out : List (List UInt8)) (r : List UInt8), scn q x = some q' → spl q part out (x ++ r) = spl q' (part ++ x) out r
  | [], q, q', part, out, r, h => by cases h; simp
  | c :: t, q, q', part, out, r, h => by
    simp only [scn] at h
    split at h
    · cases h
    · rename_i hc
      rw [List.cons_append, spl, if_neg hc, spl_scn t _ q' _ _ _ h]
      simp
theorem scn_append : ∀ (x y : List UInt8) (q : Nat), scn q (x ++ y) = (scn q x).bind fun q' => scn q' y
  | [], y, q => rfl
  | c :: t, y, q => by
    simp only [List.cons_append, scn]
    split
    · rfl
    · exact scn_append t y _
structure Good (x : List UInt8) : Prop where
  bal : scn 0 x = some 0
  trim : trimL x = x
  ne : x ≠ []

theorem scn_in_blank : ∀ (b : List UInt8) (q : Nat), (q = 1 ∨ q = 2) → (∀ c ∈ b, blkU c = true) → scn q b ≠ some 0
  | [], q, hq, _ => by simp [scn]; omega
  | c :: r, q, hq, hb => by
    have hc := hb c (by simp)
    have h1 : c ≠ 34 ∧ c ≠ 92 := by
      refine ⟨?_, ?_⟩ <;> (rintro rfl; revert hc; decide)
    have h0 : ¬ (q = 0 ∧ c = 44) := fun h => by omega
    have hn : nxt q c = 1 := by rcases hq with rfl | rfl <;> simp [nxt, h1]
    simp only [scn, if_neg h0, hn]
    exact scn_in_blank r 1 (.inl rfl) (fun d hd => hb d (by simp [hd]))
theorem scn_out_blank : ∀ (b : List UInt8), (∀ c ∈ b, blkU c = true) → scn 0 b = some 0
  | [], _ => rfl
  | c :: r, hb => by
    have hc := hb c (by simp)
    have h1 : c ≠ 34 ∧ c ≠ 44 := by
      refine ⟨?_, ?_⟩ <;> (rintro rfl; revert hc; decide)
    simp only [scn, h1.2, and_false, if_false, nxt_out h1.1]
    exact scn_out_blank r (fun d hd => hb d (by simp [hd]))
theorem scn_lt : ∀ (x : List UInt8) (q q' : Nat), q < 3 → scn q x = some q' → q' < 3
  | [], q, q', hq, h => by cases h; exact hq
  | c :: r, q, q', hq, h => by
    simp only [scn] at h
    split at h
    · cases h
    · exact scn_lt r _ _ (nxt_lt q c) h

theorem mem_takeWhile {p : UInt8 → Bool} : ∀ {l : List UInt8} {c : UInt8}, c ∈ l.takeWhile p → p c = true
  | [], c, h => by cases h
  | a :: r, c, h => by
    by_cases ha : p a = true
    · rw [List.takeWhile_cons_of_pos ha, List.mem_cons] at h
      rcases h with rfl | h
      · exact ha
      · exact mem_takeWhile h
    · rw [List.takeWhile_cons_of_neg ha] at h; cases h
theorem trim_parts (x : List UInt8) : ∃ a b, (∀ c ∈ a, blkU c = true) ∧ (∀ c ∈ b, blkU c = true) ∧ x = a ++ trimL x ++ b := by
  refine ⟨x.takeWhile blkU, ((x.dropWhile blkU).reverse.takeWhile blkU).reverse, fun c hc => mem_takeWhile hc, fun c hc => mem_takeWhile (List.mem_reverse.1 hc), ?_⟩
  unfold trimL rdw
  rw [List.append_assoc, ← List.reverse_append, List.takeWhile_append_dropWhile, List.reverse_reverse, List.takeWhile_append_dropWhile]
theorem trim_idem (x : List UInt8) : trimL (trimL x) = trimL x := trim_of_edge (trim_edge x)
theorem trim_len (x : List UInt8) : (trimL x).length ≤ x.length := by
  obtain ⟨a, b, _, _, h⟩ := trim_parts x
  have := congrArg List.length h
  simp only [List.length_append] at this
  omega
theorem good_trim {x : List UInt8} (h : scn 0 x = some 0) (hn : trimL x ≠ []) : Good (trimL x) := by
  refine ⟨?_, trim_idem x, hn⟩
  obtain ⟨a, b, ha, hb, e⟩ := trim_parts x
  rw [e, scn_append, scn_append, scn_out_blank a ha] at h
  simp only [Option.bind_some] at h
  cases hq : scn 0 (trimL x) with
  | none => rw [hq] at h; cases h
  | some q =>
    rw [hq] at h
    simp only [Option.bind_some] at h
    have := scn_lt _ _ _ (by omega) hq
    by_cases h0 : q = 0
    · rw [h0]
    · exact absurd h (scn_in_blank b q (by omega) hb)

theorem addE_good {out : List (List UInt8)} {part : List UInt8} {B : Nat} (hp : scn 0 part = some 0) (hl : part.length ≤ B) (h : ∀ x ∈ out, Good x ∧ x.length ≤ B) : ∀ x ∈ addE out part, Good x ∧ x.length ≤ B := by
  intro x hx
  unfold addE at hx
  split at hx
  · exact h x hx
  · rename_i hn
    rw [List.mem_append] at hx
    rcases hx with hx | hx
    · exact h x hx
    · rw [List.mem_singleton] at hx
      subst hx
      exact ⟨good_trim hp hn, Nat.le_trans (trim_len part) hl⟩
theorem addE_len (out : List (List UInt8)) (part : List UInt8) : (addE out part).length ≤ out.length + 1 := by
  unfold addE; split <;> simp
theorem spl_good {B : Nat} : ∀ (l : List UInt8) (q : Nat) (part : List UInt8) (out L : List (List UInt8)), spl q part out l = some L → scn 0 part = some q → part.length + l.length ≤ B → (∀ x ∈ out, Good x ∧ x.length ≤ B) →
    (∀ x ∈ L, Good x ∧ x.length ≤ B) ∧ L.length ≤ out.length + l.length + 1
  | [], q, part, out, L, h, hp, hl, ho => by
    simp only [spl] at h
    split at h
    · rename_i h0
      subst h0
      cases h
      exact ⟨addE_good hp (by simpa using hl) ho, by have := addE_len out part; simp; omega⟩
    · cases h
  | c :: r, q, part, out, L, h, hp, hl, ho => by
    simp only [List.length_cons] at hl
    simp only [spl] at h
    split at h
    · rename_i hc
      obtain ⟨rfl, rfl⟩ := hc
      have := spl_good r 0 [] _ L h rfl (by simp; omega) (addE_good hp (by omega) ho)
      have h2 := addE_len out part
      exact ⟨this.1, by simp; omega⟩
    · rename_i hc
      have := spl_good r _ _ out L h (by rw [scn_append, hp]; simp [scn, hc]) (by simp; omega) ho
      exact ⟨this.1, by simp; omega⟩
theorem split_good {l : List UInt8} {L : List (List UInt8)} (h : splitL l = some L) : (∀ x ∈ L, Good x ∧ x.length ≤ l.length) ∧ L.length ≤ l.length + 1 := by
  have := spl_good (B := l.length) l 0 [] [] L h rfl (by simp) (fun x hx => by cases hx)
  simpa using this

/-! ### What is joined is split again -/
theorem dw_space (y : List UInt8) : (32 :: y : List UInt8).dropWhile blkU = y.dropWhile blkU := List.dropWhile_cons_of_pos (by decide)
theorem spl_tail : ∀ (r : List (List UInt8)) (part : List UInt8) (out : List (List UInt8)), (∀ x ∈ r, Good x) → spl 0 part out (Lib.joinTail [44, 32] r) = some (addE out part ++ r)
  | [], part, out, _ => by simp [Lib.joinTail, spl]
  | y :: r, part, out, h => by
    have hy := h y (by simp)
    have e : Lib.joinTail [44, 32] (y :: r) = 44 :: 32 :: (y ++ Lib.joinTail [44, 32] r) := by simp [Lib.joinTail]
    have n32 : nxt 0 32 = 0 := by decide
    rw [e]
    simp only [spl, and_self, if_true]
    rw [if_neg (by decide), n32, spl_scn y 0 0 _ _ _ hy.bal, spl_tail r _ _ (fun x hx => h x (by simp [hx]))]
    have ht : trimL (32 :: y) = y := by unfold trimL; rw [dw_space]; exact hy.trim
    simp [addE, ht, hy.ne]
theorem split_join {L : List (List UInt8)} (h : ∀ x ∈ L, Good x) : splitL (Lib.join L [44, 32]) = some L := by
  cases L with
  | nil => simp [Lib.join_nil, splitL, spl, addE_nil]
  | cons x r =>
    have hx := h x (by simp)
    rw [Lib.join_cons]
    unfold splitL
    rw [spl_scn x 0 0 _ _ _ hx.bal, spl_tail r _ _ (fun y hy => h y (by simp [hy]))]
    simp [addE, hx.trim, hx.ne]
theorem join_le (L : List (List UInt8)) (n B : Nat) (hn : L.length ≤ n) (h : ∀ x ∈ L, x.length ≤ B) : (Lib.join L [44, 32]).length ≤ n * (B + 2) := by
  cases L with
  | nil => simp [Lib.join_nil]
  | cons x r =>
    rw [Lib.join_length]
    have : ∀ l : List (List UInt8), (∀ x ∈ l, x.length ≤ B) → Lib.lens l ≤ l.length * B := by
      intro l hl
      induction l with
      | nil => simp [Lib.lens]
      | cons a r ih =>
        have h1 := ih (fun x hx => hl x (by simp [hx]))
        have h2 := hl a (by simp)
        simp only [Lib.lens, List.map_cons, List.sum_cons, List.length_cons, Nat.succ_mul] at h1 ⊢
        omega
    have h1 := this _ h
    simp only [List.length_cons] at hn h1 ⊢
    have h2 : (r.length + 1) * B ≤ n * B := Nat.mul_le_mul_right B hn
    rw [Nat.mul_add]
    simp
    omega

/-! ### Quoted texts -/
def escB (c : UInt8) : List UInt8 := if c = 34 ∨ c = 92 then [92, c] else [c]
def escL (l : List UInt8) : List UInt8 := l.flatMap escB
def quoteL (l : List UInt8) : List UInt8 := 34 :: (escL l ++ [34])
theorem escL_snoc (l : List UInt8) (c : UInt8) : escL (l ++ [c]) = escL l ++ escB c := by simp [escL]
theorem escL_len (l : List UInt8) : (escL l).length ≤ 2 * l.length := by
  induction l with
  | nil => simp [escL]
  | cons a r ih =>
    have : (escB a).length ≤ 2 := by unfold escB; split <;> simp
    simp only [escL, List.flatMap_cons, List.length_append, List.length_cons] at ih ⊢
    omega
theorem quoteL_len (l : List UInt8) : (quoteL l).length ≤ 2 * l.length + 2 := by
  have := escL_len l
  simp [quoteL]; omega

def unqR (q : Nat) (t : List UInt8) : List UInt8 → Option (List UInt8)
  | [] => none
  | c :: r => if q = 1 ∧ c = 34 then (if r = [] then some t else none) else if q = 1 ∧ c = 92 then unqR 2 t r else unqR 1 (t ++ [c]) r
def unqL : List UInt8 → Option (List UInt8)
  | [] => none
  | c :: r => if c = 34 then unqR 1 [] r else none
def unqO (l : List UInt8) : List UInt8 := (unqL l).getD []
def unqE (l : List UInt8) : Int := if (unqL l).isSome then 0 else 5
/-- What stands within a quoted part, without the backslashes that bytes belong to. -/
def unesc (q : Nat) : List UInt8 → List UInt8
  | [] => []
  | c :: r => if q = 1 ∧ c = 92 then unesc 2 r else c :: unesc 1 r
/-- No quoted part ends here, and no backslash is left over. -/
def inn (q : Nat) : List UInt8 → Bool
  | [] => decide (q = 1)
  | c :: r => decide (nxt q c ≠ 0) && inn (nxt q c) r

theorem unq_esc : ∀ (l t : List UInt8), unqR 1 t (escL l ++ [34]) = some (t ++ l)
  | [], t => by simp [escL, unqR]
  | c :: r, t => by
    have ih := unq_esc r (t ++ [c])
    by_cases h : c = 34 ∨ c = 92
    · have e : escL (c :: r) = 92 :: c :: escL r := by simp [escL, escB, h]
      rw [e]
      simp only [List.cons_append, unqR]
      simp
      rw [ih]; simp
    · have e : escL (c :: r) = c :: escL r := by simp [escL, escB, h]
      have h1 : ¬ c = 34 := fun k => h (.inl k)
      have h2 : ¬ c = 92 := fun k => h (.inr k)
      rw [e]
      simp only [List.cons_append, unqR, h1, h2, and_false, if_false]
      rw [ih]; simp
theorem unq_quote (l : List UInt8) : unqL (quoteL l) = some l := by
  simp only [quoteL, unqL, if_true]
  rw [unq_esc]; simp
theorem scn_esc : ∀ (l r : List UInt8), scn 1 (escL l ++ r) = scn 1 r
  | [], r => by simp [escL]
  | c :: t, r => by
    have ih := scn_esc t r
    by_cases h : c = 34 ∨ c = 92
    · have e : escL (c :: t) = 92 :: c :: escL t := by simp [escL, escB, h]
      rw [e]
      simp [scn, nxt_esc, nxt_two, ih]
    · have e : escL (c :: t) = c :: escL t := by simp [escL, escB, h]
      have h1 : ¬ c = 34 := fun k => h (.inl k)
      have h2 : ¬ c = 92 := fun k => h (.inr k)
      rw [e]
      simp [scn, nxt_in h1 h2, ih]
theorem rdw_end (l : List UInt8) (c : UInt8) (h : blkU c = false) : rdw (l ++ [c]) = l ++ [c] := rdw_snoc_no l c h
theorem good_quote (l : List UInt8) : Good (quoteL l) := by
  refine ⟨?_, ?_, by simp [quoteL]⟩
  · show scn 0 (34 :: (escL l ++ [34])) = some 0
    simp only [scn]
    rw [if_neg (by decide), nxt_open, scn_esc]
    simp [scn, nxt_close]
  · unfold trimL quoteL
    rw [List.dropWhile_cons_of_neg (by decide), ← List.cons_append, rdw_end _ _ (by decide)]
theorem split_quote (l : List UInt8) : splitL (quoteL l) = some [quoteL l] := by
  have := split_join (L := [quoteL l]) (fun x hx => by rw [List.mem_singleton] at hx; subst hx; exact good_quote l)
  rwa [Lib.join_one] at this

/-! ### Tokens -/
def tokL (l : List UInt8) : Bool := !l.isEmpty && allB tokB l
theorem tok_plain (c : UInt8) (h : tokB (c.toNat : Int) = true) : c ≠ 34 ∧ c ≠ 44 ∧ c ≠ 61 ∧ blkU c = false := by
  have : ∀ n : Nat, n < 256 → tokB ((UInt8.ofNat n).toNat : Int) = true → UInt8.ofNat n ≠ 34 ∧ UInt8.ofNat n ≠ 44 ∧ UInt8.ofNat n ≠ 61 ∧ blkU (UInt8.ofNat n) = false := by decide +kernel
  have h2 := this c.toNat c.toNat_lt
  rw [UInt8.ofNat_toNat] at h2
  exact h2 h
theorem tok_scn : ∀ (l : List UInt8), allB tokB l = true → scn 0 l = some 0
  | [], _ => rfl
  | c :: r, h => by
    simp only [allB, List.all_cons, Bool.and_eq_true] at h
    have hc := tok_plain c h.1
    simp only [scn, hc.2.1, and_false, if_false, nxt_out hc.1]
    exact tok_scn r h.2
theorem good_tok {l : List UInt8} (h : tokL l = true) : Good l := by
  unfold tokL at h
  simp only [Bool.and_eq_true, Bool.not_eq_true', List.isEmpty_eq_false_iff] at h
  have hb : ∀ c ∈ l, blkU c = false := fun c hc => (tok_plain c ((List.all_eq_true.1 h.2) c hc)).2.2.2
  refine ⟨tok_scn l h.2, ?_, h.1⟩
  have h1 : l.dropWhile blkU = l := by
    cases l with
    | nil => rfl
    | cons a r => exact List.dropWhile_cons_of_neg (by rw [hb a (by simp)]; decide)
  unfold trimL
  rw [h1]
  unfold rdw
  cases hr : l.reverse with
  | nil => rw [List.reverse_eq_nil_iff] at hr; rw [hr]; rfl
  | cons a r =>
    have ha : a ∈ l := by rw [← List.mem_reverse, hr]; simp
    rw [List.dropWhile_cons_of_neg (by rw [hb a ha]; decide), ← hr, List.reverse_reverse]

/-! ### Unquoting by the place of the part's end -/
theorem unq_qEnd : ∀ (l : List UInt8) (q : Nat) (t : List UInt8), (q = 1 ∨ q = 2) → unqR q t l = if qEnd q l = some l.length then some (t ++ unesc q l.dropLast) else none
  | [], q, t, _ => by simp [unqR, qEnd]
  | c :: r, q, t, hq => by
    by_cases h34 : q = 1 ∧ c = 34
    · obtain ⟨rfl, rfl⟩ := h34
      simp only [unqR, qEnd, and_self, if_true, nxt_close]
      cases r with
      | nil => simp [unesc]
      | cons d s => simp
    · have hz : nxt q c ≠ 0 := by
        rcases hq with rfl | rfl
        · have h : c ≠ 34 := fun h => h34 ⟨rfl, h⟩
          unfold nxt; simp [h]; split <;> omega
        · simp [nxt]
      have hc : qEnd q (c :: r) = some (c :: r).length ↔ qEnd (nxt q c) r = some r.length := by
        simp [qEnd, hz]
      by_cases h92 : q = 1 ∧ c = 92
      · obtain ⟨rfl, rfl⟩ := h92
        simp only [hc, unqR, and_self, if_true, nxt_esc]
        rw [if_neg (by decide), unq_qEnd r 2 t (.inr rfl)]
        cases r with
        | nil => simp [qEnd]
        | cons d s => simp [unesc]
      · have hn : nxt q c = 1 := by
          rcases hq with rfl | rfl
          · exact nxt_in (fun h => h34 ⟨rfl, h⟩) (fun h => h92 ⟨rfl, h⟩)
          · rfl
        simp only [hc, hn, unqR, if_neg h34, if_neg h92]
        rw [unq_qEnd r 1 _ (.inl rfl)]
        cases r with
        | nil => simp [qEnd]
        | cons d s => simp [unesc, h92]
theorem inn_qEnd : ∀ (l : List UInt8) (q : Nat), (q = 1 ∨ q = 2) → qEnd q l = some l.length → inn q l.dropLast = true
  | [], q, _, h => by cases h
  | [c], q, hq, h => by
    simp only [List.dropLast_singleton, inn, decide_eq_true_eq]
    simp only [qEnd] at h
    split at h
    · rcases hq with rfl | rfl
      · rfl
      · simp [nxt] at *
    · simp at h
  | c :: d :: s, q, hq, h => by
    simp only [List.dropLast_cons_cons, inn]
    simp only [qEnd] at h
    split at h
    · simp at h
    · rename_i hz
      have hl := nxt_lt q c
      have h2 : qEnd (nxt q c) (d :: s) = some (d :: s).length := by
        rw [Option.map_eq_some_iff] at h
        obtain ⟨m, hm, e⟩ := h
        simp only [List.length_cons] at e ⊢
        rw [show s.length + 1 = m by omega]
        exact hm
      simp only [Bool.and_eq_true, decide_eq_true_eq]
      exact ⟨hz, inn_qEnd (d :: s) _ (by omega) h2⟩

end Go.Proofs.YtjcomlklmfeimaaGreatDoor
end

/-
  Plain functions of layer 10, without the program: what a request line and a status line are.
-/
section
namespace Go.Proofs.YtjcomlklmfeimaaGreatDoor
open Go.RowKit

def ht0 : List UInt8 := [72, 84, 84, 80, 47, 49, 46, 48]
def ht1 : List UInt8 := [72, 84, 84, 80, 47, 49, 46, 49]
/-- The minor version of a version's text, or -1. -/
def verI (s : ByteArray) : Int := if s.toList == ht0 then 0 else if s.toList == ht1 then 1 else -1
def visB (c : Int) : Bool := decide (33 ≤ c) && decide (c ≤ 126)
def tokS (s : ByteArray) : Bool := !s.toList.isEmpty && allB tokB s.data.toList
def rqM (s : ByteArray) : ByteArray := cutA s 32
def rqT (s : ByteArray) : ByteArray := cutA (cutZ s 32) 32
def rqL (s : ByteArray) : ByteArray := cutZ (cutZ s 32) 32
def rqH (s : ByteArray) : Bool := (tokS (rqM s) && !(rqT s).toList.isEmpty) && decide (0 ≤ verI (rqL s))
def rqO (s : ByteArray) : Bool := rqH s && allB visB (rqT s).data.toList
def rqE (s : ByteArray) : Int := if 8192 < s.size then 4 else if rqO s then 0 else 20
def rqA (s : ByteArray) : ByteArray := if rqE s = 0 then rqM s else ⟨#[]⟩
def rqB (s : ByteArray) : ByteArray := if rqE s = 0 then rqT s else ⟨#[]⟩
def rqV (s : ByteArray) : Int := if rqE s = 0 then verI (rqL s) else 0
theorem rq_long {s : ByteArray} (h : 8192 < s.size) : rqA s = ⟨#[]⟩ ∧ rqB s = ⟨#[]⟩ ∧ rqV s = 0 ∧ rqE s = 4 := by simp [rqA, rqB, rqV, rqE, h]
theorem rq_no {s : ByteArray} (h : ¬ 8192 < s.size) (ho : rqO s = false) : rqA s = ⟨#[]⟩ ∧ rqB s = ⟨#[]⟩ ∧ rqV s = 0 ∧ rqE s = 20 := by simp [rqA, rqB, rqV, rqE, h, ho]
theorem rq_yes {s : ByteArray} (h : ¬ 8192 < s.size) (ho : rqO s = true) : rqA s = rqM s ∧ rqB s = rqT s ∧ rqV s = verI (rqL s) ∧ rqE s = 0 := by simp [rqA, rqB, rqV, rqE, h, ho]

/-- A status line's parts. -/
def stC (s : ByteArray) : Int := numN 10 18 599 (s.extract 9 12).data.toList
def stX (s : ByteArray) : Int := numE 10 18 599 (s.extract 9 12).data.toList
def stR (s : ByteArray) : ByteArray := s.extract 13 s.size
def byteI (s : ByteArray) (k : Nat) : Int := ((s.data.toList[k]?).getD 0).toNat
def stH (s : ByteArray) : Bool := ((decide (13 ≤ s.size) && decide (0 ≤ verI (s.extract 0 8))) && (byteI s 8 == 32)) && (byteI s 12 == 32)
def stO (s : ByteArray) : Bool := stH s && (((stX s == 0) && decide (100 ≤ stC s)) && allB txtB (stR s).data.toList)
def stE (s : ByteArray) : Int := if 8192 < s.size then 4 else if stO s then 0 else 20
def stN (s : ByteArray) : Int := if stE s = 0 then stC s else 0
def stB (s : ByteArray) : ByteArray := if stE s = 0 then stR s else ⟨#[]⟩
def stV' (s : ByteArray) : Int := if stE s = 0 then verI (s.extract 0 8) else 0
theorem st_long {s : ByteArray} (h : 8192 < s.size) : stN s = 0 ∧ stB s = ⟨#[]⟩ ∧ stV' s = 0 ∧ stE s = 4 := by simp [stN, stB, stV', stE, h]
theorem st_no {s : ByteArray} (h : ¬ 8192 < s.size) (ho : stO s = false) : stN s = 0 ∧ stB s = ⟨#[]⟩ ∧ stV' s = 0 ∧ stE s = 20 := by simp [stN, stB, stV', stE, h, ho]
theorem st_yes {s : ByteArray} (h : ¬ 8192 < s.size) (ho : stO s = true) : stN s = stC s ∧ stB s = stR s ∧ stV' s = verI (s.extract 0 8) ∧ stE s = 0 := by simp [stN, stB, stV', stE, h, ho]

def prqS (m t : ByteArray) (v : Int) : ByteArray := m ++ (⟨#[32]⟩ : ByteArray) ++ t ++ (⟨#[32, 72, 84, 84, 80, 47, 49, 46]⟩ : ByteArray) ++ mkS (plainL v)
def pstS (c : Int) (r : ByteArray) (v : Int) : ByteArray := (⟨#[72, 84, 84, 80, 47, 49, 46]⟩ : ByteArray) ++ mkS (plainL v) ++ (⟨#[32]⟩ : ByteArray) ++ mkS (plainL c) ++ (⟨#[32]⟩ : ByteArray) ++ r
def safeB (m : ByteArray) : Bool := ((m.toList == [71, 69, 84] || m.toList == [72, 69, 65, 68]) || m.toList == [79, 80, 84, 73, 79, 78, 83]) || m.toList == [84, 82, 65, 67, 69]
def usuS (c : Int) : ByteArray :=
  if c = 200 then ⟨#[79, 75]⟩ else if c = 304 then ⟨#[78, 111, 116, 32, 77, 111, 100, 105, 102, 105, 101, 100]⟩ else if c = 400 then ⟨#[66, 97, 100, 32, 82, 101, 113, 117, 101, 115, 116]⟩
  else if c = 502 then ⟨#[66, 97, 100, 32, 71, 97, 116, 101, 119, 97, 121]⟩ else if c = 504 then ⟨#[71, 97, 116, 101, 119, 97, 121, 32, 84, 105, 109, 101, 111, 117, 116]⟩ else ⟨#[]⟩

theorem nil_str {s : ByteArray} (h : s.size = 0) : s.toList.isEmpty = true := by
  rw [Lib.toList_data, List.isEmpty_iff, ← List.length_eq_zero_iff, ← Lib.size_eq]; exact h
theorem non_str {s : ByteArray} (h : s.size ≠ 0) : s.toList.isEmpty = false := by
  rw [Lib.toList_data, ← Bool.not_eq_true, List.isEmpty_iff, ← List.length_eq_zero_iff, ← Lib.size_eq]; exact h
theorem str_eq {s : ByteArray} {l : List UInt8} (h : (s.toList == l) = true) : s = mkS l := by
  have := eq_of_beq h
  rw [Lib.toList_data] at this
  exact mkS_eq this
theorem byteI_at {s : ByteArray} {k : Nat} (h : k < s.size) : byteI s k = (s[k].toNat : Int) := by
  unfold byteI
  rw [List.getElem?_eq_getElem (by rw [← Lib.size_eq]; exact h)]; rfl

end Go.Proofs.YtjcomlklmfeimaaGreatDoor
end

/-
  A scope that the run enters by going straight to its label, and goes on by jumps back to it: the passes alone are walked.
-/
section
namespace Go.Proofs.YtjcomlklmfeimaaGreatDoor
open Go.RowKit

theorem wp_scope_from {P : Program} {a : Act} {w : World} {Q : Exit → Act → World → Prop} {c rest : Code} (l : Nat) (J : Act → World → Prop) (μ : Act → World → Nat) (hf : findLabel c l = some (Code.seq Code.skip rest))
    (first : (∀ a' w', J a' w' → rest.wp P (Exit.jump l J Q) a' w') → c.wp P (Exit.jump l J Q) a w)
    (pass : ∀ a' w', J a' w' → rest.wp P (Exit.jump l (fun b v => J b v ∧ μ b v < μ a' w') Q) a' w') : (Code.scope c).wp P Q a w :=
  wp_scope_jumps l J μ hf (first fun a' w' h => wp_mono (pass a' w' h) fun e b v hq => by
    cases e with
    | goto l' => exact ⟨hq.1, hq.2.1⟩
    | normal => exact hq
    | exit i => exact hq
    | ret => exact hq
    | panic ch => exact hq
    | outgrown => exact hq) fun a' w' h => wp_seq (wp_skip (pass a' w' h))

end Go.Proofs.YtjcomlklmfeimaaGreatDoor
end

/-
  Plain facts of layer 10: what is printed is read as it is, what is read is printed as it was (P10.4).
-/
section
namespace Go.Proofs.YtjcomlklmfeimaaGreatDoor
open Go.RowKit

/-! ### Cutting at the first space -/
theorem lin_cut {s : ByteArray} {A B : List UInt8} (h : s.data.toList = A ++ 32 :: B) (hn : ∀ x ∈ A, x ≠ 32) : cutA s 32 = mkS A ∧ cutZ s 32 = mkS B ∧ cutOk s 32 = true := by
  have hsz : s.size = A.length + (B.length + 1) := by rw [Lib.size_eq, h, List.length_append, List.length_cons]
  have hlt : A.length < s.size := by omega
  have hat : ∀ (k : Nat) (hk : k < s.size), (A ++ 32 :: B)[k]? = some s[k] := fun k hk => by
    rw [← h, List.getElem?_eq_getElem (by rw [← Lib.size_eq]; exact hk)]; rfl
  have hi : idxOf s 32 = A.length := by
    refine idx_first s 32 (by decide) (by decide) A.length hlt ?_ fun k hk => ?_
    · have := hat A.length hlt
      rw [List.getElem?_append_right (Nat.le_refl _), Nat.sub_self, List.getElem?_cons_zero, Option.some.injEq] at this
      rw [← this]; rfl
    · have h2 := hat k (by omega)
      rw [List.getElem?_append_left hk] at h2
      obtain ⟨h3, h4⟩ := List.getElem?_eq_some_iff.1 h2
      have h5 := hn _ (List.getElem_mem h3)
      rw [h4] at h5
      intro e
      apply h5
      rw [← UInt8.toNat_inj]
      have : (s[k].toNat : Int) = 32 := e
      have h32 : (32 : UInt8).toNat = 32 := rfl
      omega
  obtain ⟨e1, e2, e3⟩ := cut_hit hi
  refine ⟨?_, ?_, e3⟩
  · rw [e1, piece_ext]
    congr 1
    unfold piece
    rw [List.drop_zero, h, Nat.sub_zero, List.take_append_of_le_length (Nat.le_refl _), List.take_length]
  · rw [e2, piece_ext, piece_all, h]
    congr 1
    rw [List.drop_append, List.drop_eq_nil_of_le (by omega), List.nil_append, show A.length + 1 - A.length = 1 by omega]
    rfl
theorem lin_cut_no {s : ByteArray} (h : cutOk s 32 = false) : cutA s 32 = s ∧ cutZ s 32 = ⟨#[]⟩ := by
  rcases idx_cases s 32 (by decide) (by decide) with ⟨hn, _⟩ | ⟨i, hi, _⟩
  · exact ⟨(cut_miss hn).1, (cut_miss hn).2.1⟩
  · rw [(cut_hit hi).2.2] at h; cases h
theorem lin_cut_yes {s : ByteArray} (h : cutOk s 32 = true) : s.data.toList = (cutA s 32).data.toList ++ 32 :: (cutZ s 32).data.toList := by
  rcases idx_cases s 32 (by decide) (by decide) with ⟨hn, _⟩ | ⟨i, hi, hlt, he, _⟩
  · rw [(cut_miss hn).2.2] at h; cases h
  · obtain ⟨e1, e2, _⟩ := cut_hit hi
    have hj := cut_joins s i hlt
    have hb : s[i] = 32 := by
      rw [← UInt8.toNat_inj]
      have h32 : (32 : UInt8).toNat = 32 := rfl
      omega
    have := congrArg (fun x : ByteArray => x.data.toList) hj
    simp only [ByteArray.data_append, Array.toList_append] at this
    rw [e1, e2, ← this, hb, List.append_assoc]
    rfl
theorem lin_uniq : ∀ {a b c d : List UInt8}, a ++ 32 :: b = c ++ 32 :: d → (∀ x ∈ c, x ≠ 32) → (∀ x ∈ d, x ≠ 32) → a = c ∧ b = d
  | [], b, [], d, h, _, _ => ⟨rfl, by simpa using h⟩
  | [], b, y :: c, d, h, hc, _ => by
    simp only [List.nil_append, List.cons_append, List.cons.injEq] at h
    exact absurd h.1.symm (hc y (List.mem_cons_self ..))
  | x :: a, b, [], d, h, _, hd => by
    simp only [List.nil_append, List.cons_append, List.cons.injEq] at h
    exact absurd rfl (hd 32 (by rw [← h.2]; simp))
  | x :: a, b, y :: c, d, h, hc, hd => by
    simp only [List.cons_append, List.cons.injEq] at h
    obtain ⟨h1, h2⟩ := lin_uniq h.2 (fun z hz => hc z (List.mem_cons_of_mem _ hz)) hd
    exact ⟨by rw [h.1, h1], h2⟩

/-! ### Versions -/
theorem ver_yes {s : ByteArray} (h : 0 ≤ verI s) : (verI s = 0 ∧ s = mkS ht0) ∨ (verI s = 1 ∧ s = mkS ht1) := by
  unfold verI at h ⊢
  split
  · rename_i e
    exact .inl ⟨rfl, str_eq e⟩
  · split
    · rename_i e
      exact .inr ⟨rfl, str_eq e⟩
    · rename_i e1 e2
      rw [if_neg e1, if_neg e2] at h
      exact absurd h (by decide)
theorem ver_text {v : Int} (h0 : 0 ≤ v) (h1 : v ≤ 1) : ([72, 84, 84, 80, 47, 49, 46] ++ plainL v : List UInt8) = (if v = 0 then ht0 else ht1) ∧ verI (mkS ([72, 84, 84, 80, 47, 49, 46] ++ plainL v)) = v := by
  have : v = 0 ∨ v = 1 := by omega
  rcases this with rfl | rfl
  · constructor <;> decide +kernel
  · constructor <;> decide +kernel
theorem ver_list {s : ByteArray} (h : 0 ≤ verI s) : s.data.toList = [72, 84, 84, 80, 47, 49, 46] ++ plainL (verI s) := by
  rcases ver_yes h with ⟨h1, h2⟩ | ⟨h1, h2⟩
  · rw [h1, h2, mkS_list]; decide +kernel
  · rw [h1, h2, mkS_list]; decide +kernel
theorem ver_le {s : ByteArray} (h : 0 ≤ verI s) : verI s ≤ 1 := by
  rcases ver_yes h with ⟨h1, _⟩ | ⟨h1, _⟩ <;> omega

/-! ### Request lines -/
theorem prq_list (m t : ByteArray) (v : Int) : (prqS m t v).data.toList = m.data.toList ++ 32 :: (t.data.toList ++ 32 :: ([72, 84, 84, 80, 47, 49, 46] ++ plainL v)) := by
  unfold prqS
  rw [append_list, append_list, append_list, append_list, mkS_list]
  simp
theorem vis_no_space {t : ByteArray} (h : allB visB t.data.toList = true) : ∀ x ∈ t.data.toList, x ≠ 32 := fun x hx e => by
  unfold allB at h
  rw [List.all_eq_true] at h
  have := h x hx
  rw [e] at this
  exact absurd this (by decide)
theorem tok_no_space {m : ByteArray} (h : tokS m = true) : ∀ x ∈ m.data.toList, x ≠ 32 := fun x hx e => by
  unfold tokS allB at h
  rw [Bool.and_eq_true, List.all_eq_true] at h
  have := h.2 x hx
  rw [e] at this
  exact absurd this (by decide)
/-- A request line's parts form it. -/
theorem rq_print {s : ByteArray} (h : rqO s = true) : prqS (rqM s) (rqT s) (verI (rqL s)) = s ∧ 0 ≤ verI (rqL s) ∧ verI (rqL s) ≤ 1 := by
  have h0 := h
  unfold rqO rqH at h
  simp only [Bool.and_eq_true, decide_eq_true_eq] at h
  obtain ⟨⟨⟨h1, h2⟩, h3⟩, h4⟩ := h
  have hne : ¬ (rqT s).toList.isEmpty = true := by simpa using h2
  have k1 : cutOk s 32 = true := by
    cases e : cutOk s 32 with
    | true => rfl
    | false =>
      exfalso
      have hz := (lin_cut_no e).2
      apply hne
      unfold rqT
      rw [hz]
      decide +kernel
  have k2 : cutOk (cutZ s 32) 32 = true := by
    cases e : cutOk (cutZ s 32) 32 with
    | true => rfl
    | false =>
      exfalso
      have hz := (lin_cut_no e).2
      have : rqL s = ⟨#[]⟩ := hz
      rw [this] at h3
      exact absurd h3 (by decide +kernel)
  have e1 := lin_cut_yes k1
  have e2 := lin_cut_yes k2
  have e3 := ver_list h3
  refine ⟨?_, h3, ver_le h3⟩
  have hl : (prqS (rqM s) (rqT s) (verI (rqL s))).data.toList = s.data.toList := by
    rw [prq_list, ← e3, e1, e2]; rfl
  rw [mkS_eq hl, mkS_self]
theorem rq_back {s : ByteArray} (h : rqE s = 0) : prqS (rqA s) (rqB s) (rqV s) = s ∧ 0 ≤ rqV s ∧ rqV s ≤ 1 := by
  have hl : ¬ 8192 < s.size := fun hl => by rw [(rq_long hl).2.2.2] at h; exact absurd h (by decide)
  have ho : rqO s = true := by
    cases e : rqO s with
    | true => rfl
    | false => rw [(rq_no hl e).2.2.2] at h; exact absurd h (by decide)
  obtain ⟨e1, e2, e3, _⟩ := rq_yes hl ho
  rw [e1, e2, e3]
  exact rq_print ho

def fineQ (m t : ByteArray) : Bool := (tokS m && !t.toList.isEmpty) && allB visB t.data.toList
theorem rq_of_print {m t : ByteArray} {v : Int} (h0 : 0 ≤ v) (h1 : v ≤ 1) (hf : fineQ m t = true) : rqM (prqS m t v) = m ∧ rqT (prqS m t v) = t ∧ verI (rqL (prqS m t v)) = v ∧ rqO (prqS m t v) = true := by
  unfold fineQ at hf
  simp only [Bool.and_eq_true] at hf
  obtain ⟨⟨f1, f2⟩, f3⟩ := hf
  obtain ⟨a1, a2, _⟩ := lin_cut (prq_list m t v) (tok_no_space f1)
  have hZ : (cutZ (prqS m t v) 32).data.toList = t.data.toList ++ 32 :: ([72, 84, 84, 80, 47, 49, 46] ++ plainL v) := by rw [a2, mkS_list]
  obtain ⟨b1, b2, _⟩ := lin_cut hZ (vis_no_space f3)
  have hM : rqM (prqS m t v) = m := by unfold rqM; rw [a1, mkS_self]
  have hT : rqT (prqS m t v) = t := by unfold rqT; rw [b1, mkS_self]
  have hL : verI (rqL (prqS m t v)) = v := by unfold rqL; rw [b2]; exact (ver_text h0 h1).2
  refine ⟨hM, hT, hL, ?_⟩
  unfold rqO rqH
  rw [hM, hT, hL, f1, f2, f3, decide_eq_true h0]; rfl
theorem rq_fine {m t : ByteArray} {v : Int} (h0 : 0 ≤ v) (h1 : v ≤ 1) (ho : rqO (prqS m t v) = true) : fineQ m t = true := by
  obtain ⟨hp, g0, g1⟩ := rq_print ho
  have hO := ho
  unfold rqO rqH at hO
  simp only [Bool.and_eq_true, decide_eq_true_eq] at hO
  obtain ⟨⟨⟨k1, k2⟩, k3⟩, k4⟩ := hO
  generalize rqM (prqS m t v) = M at *
  generalize rqT (prqS m t v) = T at *
  generalize verI (rqL (prqS m t v)) = u at *
  have hl := congrArg (fun x : ByteArray => x.data.toList) hp
  simp only [prq_list] at hl
  have pl : ∀ x : Int, 0 ≤ x → x ≤ 1 → (plainL x).length = 1 := fun x hx hy => by
    have : x = 0 ∨ x = 1 := by omega
    rcases this with rfl | rfl <;> decide +kernel
  have hll : (M.data.toList ++ 32 :: T.data.toList).length = (m.data.toList ++ 32 :: t.data.toList).length := by
    have := congrArg List.length hl
    simp only [List.length_append, List.length_cons, pl u g0 g1, pl v h0 h1] at this ⊢
    omega
  have hsp : (M.data.toList ++ 32 :: T.data.toList) ++ 32 :: ([72, 84, 84, 80, 47, 49, 46] ++ plainL u) = (m.data.toList ++ 32 :: t.data.toList) ++ 32 :: ([72, 84, 84, 80, 47, 49, 46] ++ plainL v) := by
    rw [List.append_assoc, List.append_assoc, List.cons_append, List.cons_append]
    exact hl
  have he := List.append_inj_left hsp hll
  obtain ⟨q1, q2⟩ := lin_uniq he.symm (tok_no_space k1) (vis_no_space k4)
  have hm : m = M := by rw [mkS_eq q1, mkS_self]
  have ht : t = T := by rw [mkS_eq q2, mkS_self]
  unfold fineQ
  rw [hm, ht, k1, k2, k4]; rfl
theorem prq_size (m t : ByteArray) (v : Int) (h0 : 0 ≤ v) (h1 : v ≤ 1) : (prqS m t v).size = m.size + t.size + 10 := by
  rw [Lib.size_eq, prq_list]
  have : v = 0 ∨ v = 1 := by omega
  have pl : (plainL v).length = 1 := by rcases this with rfl | rfl <;> decide +kernel
  simp only [List.length_append, List.length_cons, List.length_nil, pl]
  rw [← Lib.size_eq, ← Lib.size_eq]
  omega
theorem rq_trip {m t : ByteArray} {v : Int} (h0 : 0 ≤ v) (h1 : v ≤ 1) (hm : m.size ≤ 1000) (ht : t.size ≤ 1000) :
    (fineQ m t = true → rqE (prqS m t v) = 0 ∧ rqA (prqS m t v) = m ∧ rqB (prqS m t v) = t ∧ rqV (prqS m t v) = v) ∧ (fineQ m t = false → rqE (prqS m t v) = 20) := by
  have hl : ¬ 8192 < (prqS m t v).size := by rw [prq_size m t v h0 h1]; omega
  constructor
  · intro hf
    obtain ⟨e1, e2, e3, e4⟩ := rq_of_print h0 h1 hf
    obtain ⟨y1, y2, y3, y4⟩ := rq_yes hl e4
    exact ⟨y4, by rw [y1, e1], by rw [y2, e2], by rw [y3, e3]⟩
  · intro hf
    cases e : rqO (prqS m t v) with
    | true => rw [rq_fine h0 h1 e] at hf; cases hf
    | false => exact (rq_no hl e).2.2.2

/-! ### Status lines -/
theorem dig_byte : ∀ n : Nat, n < 256 → digV (n : Int) < 10 → 48 ≤ n ∧ n ≤ 57 := by decide +kernel
theorem dig_three : ∀ x : Nat, x < 10 → ∀ y : Nat, y < 10 → ∀ z : Nat, z < 10 → 100 ≤ valV 10 [UInt8.ofNat (48 + x), UInt8.ofNat (48 + y), UInt8.ofNat (48 + z)] → plainL (valV 10 [UInt8.ofNat (48 + x), UInt8.ofNat (48 + y), UInt8.ofNat (48 + z)]) = [UInt8.ofNat (48 + x), UInt8.ofNat (48 + y), UInt8.ofNat (48 + z)] := by decide +kernel
theorem dig_of {c : UInt8} (h : isD 10 (c.toNat : Int) = true) : ∃ x, x < 10 ∧ c = UInt8.ofNat (48 + x) := by
  rw [isD_true] at h
  obtain ⟨h1, h2⟩ := dig_byte c.toNat c.toNat_lt h
  refine ⟨c.toNat - 48, by omega, ?_⟩
  rw [← UInt8.toNat_inj, UInt8.toNat_ofNat']
  omega
theorem digs_three {l : List UInt8} (hl : l.length = 3) (hd : allB (isD 10) l = true) (hv : 100 ≤ valV 10 l) : plainL (valV 10 l) = l := by
  match l, hl with
  | [a, b, c], _ =>
    unfold allB at hd
    simp only [List.all_cons, List.all_nil, Bool.and_true, Bool.and_eq_true] at hd
    obtain ⟨x, hx, rfl⟩ := dig_of hd.1
    obtain ⟨y, hy, rfl⟩ := dig_of hd.2.1
    obtain ⟨z, hz, rfl⟩ := dig_of hd.2.2
    exact dig_three x hx y hy z hz hv
theorem num_zero {l : List UInt8} (h : numE 10 18 599 l = 0) : allB (isD 10) l = true ∧ numN 10 18 599 l = valV 10 l ∧ valV 10 l ≤ 599 := by
  unfold numE at h
  split at h
  · exact absurd h (by decide)
  · rename_i h1
    split at h
    · exact absurd h (by decide)
    · rename_i h2
      have h3 : allB (isD 10) l = true := by
        cases e : allB (isD 10) l with
        | true => rfl
        | false => exact absurd (.inr (.inr e)) h1
      refine ⟨h3, ?_, by omega⟩
      unfold numN
      rw [if_neg]
      rintro (h | h | h | h)
      · exact h1 (.inl h)
      · exact h1 (.inr (.inl h))
      · exact h1 (.inr (.inr h))
      · exact h2 h
theorem ext_list (s : ByteArray) (i j : Nat) : (s.extract i j).data.toList = (s.data.toList.drop i).take (j - i) := by
  rw [piece_ext, mkS_list]; rfl
theorem pst_list (c : Int) (r : ByteArray) (v : Int) : (pstS c r v).data.toList = ([72, 84, 84, 80, 47, 49, 46] ++ plainL v) ++ 32 :: (plainL c ++ 32 :: r.data.toList) := by
  unfold pstS
  rw [append_list, append_list, append_list, append_list, append_list, mkS_list, mkS_list]
  simp
theorem byteI_32 {s : ByteArray} {k : Nat} (hk : k < s.size) (h : byteI s k = 32) : s.data.toList[k]? = some 32 := by
  unfold byteI at h
  obtain ⟨c, hc⟩ : ∃ c, s.data.toList[k]? = some c := ⟨_, List.getElem?_eq_getElem (by rw [← Lib.size_eq]; exact hk)⟩
  rw [hc] at h ⊢
  simp only [Option.getD_some] at h
  congr 1
  rw [← UInt8.toNat_inj]
  have h32 : (32 : UInt8).toNat = 32 := rfl
  omega
theorem st_print {s : ByteArray} (h : stO s = true) : pstS (stC s) (stR s) (verI (s.extract 0 8)) = s ∧ (0 ≤ verI (s.extract 0 8) ∧ verI (s.extract 0 8) ≤ 1) ∧ 100 ≤ stC s ∧ stC s ≤ 599 := by
  unfold stO stH at h
  simp only [Bool.and_eq_true, decide_eq_true_eq] at h
  obtain ⟨⟨⟨⟨h13, hv⟩, h8⟩, h12⟩, ⟨hX, hC⟩, _⟩ := h
  have h8 : byteI s 8 = 32 := eq_of_beq h8
  have h12 : byteI s 12 = 32 := eq_of_beq h12
  have hX : stX s = 0 := eq_of_beq hX
  obtain ⟨n1, n2, n3⟩ := num_zero hX
  have n2 : stC s = valV 10 (s.extract 9 12).data.toList := n2
  have hlen : s.data.toList.length = s.size := (Lib.size_eq s).symm
  have l3 : (s.extract 9 12).data.toList.length = 3 := by rw [ext_list, List.length_take, List.length_drop]; omega
  have hp := digs_three l3 n1 (by rw [← n2]; exact hC)
  have b8 := byteI_32 (show 8 < s.size by omega) h8
  have b12 := byteI_32 (show 12 < s.size by omega) h12
  have hlist : s.data.toList = (s.extract 0 8).data.toList ++ 32 :: ((s.extract 9 12).data.toList ++ 32 :: (s.extract 13 s.size).data.toList) := by
    rw [ext_list, ext_list, ext_list]
    generalize s.data.toList = l at *
    obtain ⟨g8, e8⟩ := List.getElem?_eq_some_iff.1 b8
    obtain ⟨g12, e12⟩ := List.getElem?_eq_some_iff.1 b12
    have d8 : l.drop 8 = 32 :: l.drop 9 := by rw [List.drop_eq_getElem_cons g8, e8]
    have d12 : l.drop 12 = 32 :: l.drop 13 := by rw [List.drop_eq_getElem_cons g12, e12]
    have d9 : l.drop 9 = (l.drop 9).take 3 ++ l.drop 12 := by
      have := (List.take_append_drop 3 (l.drop 9)).symm
      rwa [List.drop_drop] at this
    have d0 : l = l.take 8 ++ l.drop 8 := (List.take_append_drop 8 l).symm
    rw [List.drop_zero, Nat.sub_zero, show 12 - 9 = 3 by rfl, List.take_of_length_le (l := l.drop 13) (by rw [List.length_drop]; omega), ← d12, ← d9, ← d8]
    exact d0
  refine ⟨?_, ⟨hv, ver_le hv⟩, hC, by rw [n2]; exact n3⟩
  have hl : (pstS (stC s) (stR s) (verI (s.extract 0 8))).data.toList = s.data.toList := by
    rw [pst_list, ← ver_list hv, n2, hp]
    exact hlist.symm
  rw [mkS_eq hl, mkS_self]
theorem st_back {s : ByteArray} (h : stE s = 0) : pstS (stN s) (stB s) (stV' s) = s ∧ (0 ≤ stV' s ∧ stV' s ≤ 1) ∧ 100 ≤ stN s ∧ stN s ≤ 599 := by
  have hl : ¬ 8192 < s.size := fun hl => by rw [(st_long hl).2.2.2] at h; exact absurd h (by decide)
  have ho : stO s = true := by
    cases e : stO s with
    | true => rfl
    | false => rw [(st_no hl e).2.2.2] at h; exact absurd h (by decide)
  obtain ⟨e1, e2, e3, _⟩ := st_yes hl ho
  rw [e1, e2, e3]
  exact st_print ho
def fineT (c : Int) (r : ByteArray) : Bool := (decide (100 ≤ c) && decide (c ≤ 599)) && allB txtB r.data.toList
theorem code_three : ∀ n : Nat, n < 500 → (plainL ((n : Int) + 100)).length = 3 ∧ numE 10 18 599 (plainL ((n : Int) + 100)) = 0 ∧ numN 10 18 599 (plainL ((n : Int) + 100)) = (n : Int) + 100 := by decide +kernel
theorem st_trip {c : Int} {r : ByteArray} {v : Int} (h0 : 0 ≤ v) (h1 : v ≤ 1) (hr : r.size ≤ 1000) (hf : fineT c r = true) :
    stE (pstS c r v) = 0 ∧ stN (pstS c r v) = c ∧ stB (pstS c r v) = r ∧ stV' (pstS c r v) = v := by
  unfold fineT at hf
  simp only [Bool.and_eq_true, decide_eq_true_eq] at hf
  obtain ⟨⟨c0, c1⟩, hx⟩ := hf
  obtain ⟨k1, k2, k3⟩ := code_three (c - 100).toNat (by omega)
  rw [show (((c - 100).toNat : Nat) : Int) + 100 = c by omega] at k1 k2 k3
  have pl : (plainL v).length = 1 := by
    have : v = 0 ∨ v = 1 := by omega
    rcases this with rfl | rfl <;> decide +kernel
  have hvt := (ver_text h0 h1).2
  have hL := pst_list c r v
  generalize hC : plainL c = C at *
  generalize hV : plainL v = V at *
  match C, k1, V, pl with
  | [x, y, z], _, [d], _ =>
    have hsz : (pstS c r v).size = 13 + r.size := by
      rw [Lib.size_eq, hL, Lib.size_eq r]
      simp only [List.length_append, List.length_cons, List.length_nil]; omega
    have e08 : (pstS c r v).extract 0 8 = mkS ([72, 84, 84, 80, 47, 49, 46] ++ [d]) := mkS_eq (by rw [ext_list, hL]; rfl)
    have e912 : ((pstS c r v).extract 9 12).data.toList = [x, y, z] := by rw [ext_list, hL]; rfl
    have e13 : (pstS c r v).extract 13 (pstS c r v).size = r := by
      have : ((pstS c r v).extract 13 (pstS c r v).size).data.toList = r.data.toList := by
        rw [ext_list, hsz, hL]
        show List.take (13 + r.size - 13) r.data.toList = _
        rw [List.take_of_length_le (by rw [← Lib.size_eq]; omega)]
      rw [mkS_eq this, mkS_self]
    have b8 : byteI (pstS c r v) 8 = 32 := by unfold byteI; rw [hL]; rfl
    have b12 : byteI (pstS c r v) 12 = 32 := by unfold byteI; rw [hL]; rfl
    have hR : stR (pstS c r v) = r := e13
    have hCC : stC (pstS c r v) = c := by unfold stC; rw [e912]; exact k3
    have hXX : stX (pstS c r v) = 0 := by unfold stX; rw [e912]; exact k2
    have hO : stO (pstS c r v) = true := by
      unfold stO stH
      rw [hR, hCC, hXX, b8, b12, e08, hvt, hsz, hx, decide_eq_true (show 13 ≤ 13 + r.size by omega), decide_eq_true h0, decide_eq_true c0]; rfl
    obtain ⟨y1, y2, y3, y4⟩ := st_yes (s := pstS c r v) (by rw [hsz]; omega) hO
    exact ⟨y4, by rw [y1, hCC], by rw [y2, hR], by rw [y3, e08, hvt]⟩
theorem pst_size (c : Int) (r : ByteArray) (v : Int) (h0 : 0 ≤ v) (h1 : v ≤ 1) (g0 : -9223372036854775808 ≤ c) (g1 : c ≤ 9223372036854775807) : (pstS c r v).size ≤ 30 + r.size := by
  rw [Lib.size_eq, pst_list]
  have pl : (plainL v).length = 1 := by
    have : v = 0 ∨ v = 1 := by omega
    rcases this with rfl | rfl <;> decide +kernel
  have pc := plainL_short c g0 g1
  simp only [List.length_append, List.length_cons, List.length_nil, pl]
  rw [← Lib.size_eq]
  omega

end Go.Proofs.YtjcomlklmfeimaaGreatDoor
end

/-
  Plain facts of layer 10: a status line cut at its first two spaces is the line that the page says.
-/
section
namespace Go.Proofs.YtjcomlklmfeimaaGreatDoor
open Go.RowKit

/-- What the first two cuts of a line leave. -/
def ptA (s : ByteArray) : ByteArray := cutA s 32
def ptB (s : ByteArray) : ByteArray := cutA (cutZ s 32) 32
def ptC (s : ByteArray) : ByteArray := cutZ (cutZ s 32) 32
def ptK (s : ByteArray) : Bool := cutOk (cutZ s 32) 32
/-- A code's text. -/
def cdB (s : ByteArray) : Bool := ((numE 10 18 599 s.data.toList == 0) && decide (s.size = 3)) && decide (100 ≤ numN 10 18 599 s.data.toList)
def cdN (s : ByteArray) : Int := if cdB s then numN 10 18 599 s.data.toList else 0
def vrB (s : ByteArray) : Bool := decide (0 ≤ verI s)
def vrN (s : ByteArray) : Int := if vrB s then verI s else 0
def stQ (s : ByteArray) : Bool := ((ptK s && vrB (ptA s)) && cdB (ptB s)) && allB txtB (ptC s).data.toList

theorem ver_size {s : ByteArray} (h : 0 ≤ verI s) : s.size = 8 := by
  rcases ver_yes h with ⟨_, h⟩ | ⟨_, h⟩ <;> (rw [h]; decide +kernel)
theorem ver_no_space {s : ByteArray} (h : 0 ≤ verI s) : ∀ x ∈ s.data.toList, x ≠ 32 := by
  rcases ver_yes h with ⟨_, h⟩ | ⟨_, h⟩ <;> (rw [h, mkS_list]; decide)
theorem num_no_space {s : ByteArray} (h : numE 10 18 599 s.data.toList = 0) : ∀ x ∈ s.data.toList, x ≠ 32 := fun x hx e => by
  have h3 := (num_zero h).1
  unfold allB at h3
  rw [List.all_eq_true] at h3
  have := h3 x hx
  rw [e] at this
  exact absurd this (by decide)
theorem ext_parts {s : ByteArray} {F D Z : List UInt8} (h : s.data.toList = F ++ 32 :: (D ++ 32 :: Z)) (hF : F.length = 8) (hD : D.length = 3) :
    s.extract 0 8 = mkS F ∧ s.extract 9 12 = mkS D ∧ s.extract 13 s.size = mkS Z ∧ 13 ≤ s.size ∧ byteI s 8 = 32 ∧ byteI s 12 = 32 := by
  have hsz : s.size = 13 + Z.length := by rw [Lib.size_eq, h]; simp only [List.length_append, List.length_cons]; omega
  have d9 : s.data.toList.drop 9 = D ++ 32 :: Z := by
    rw [h, List.drop_append, List.drop_eq_nil_of_le (by omega), hF]; rfl
  have d12 : s.data.toList.drop 12 = 32 :: Z := by
    have : s.data.toList.drop 12 = (s.data.toList.drop 9).drop 3 := by rw [List.drop_drop]
    rw [this, d9, List.drop_append, List.drop_eq_nil_of_le (by omega), hD]; rfl
  have d13 : s.data.toList.drop 13 = Z := by
    have : s.data.toList.drop 13 = (s.data.toList.drop 12).drop 1 := by rw [List.drop_drop]
    rw [this, d12]; rfl
  have b8 : s.data.toList[8]? = some 32 := by
    rw [h, List.getElem?_append_right (by omega), hF]; rfl
  have b12 : s.data.toList[12]? = some 32 := by
    have : (s.data.toList.drop 12)[0]? = s.data.toList[12]? := by rw [List.getElem?_drop]
    rw [← this, d12]; rfl
  refine ⟨?_, ?_, ?_, by omega, ?_, ?_⟩
  · rw [← mkS_self (s.extract 0 8), ext_list, List.drop_zero, Nat.sub_zero, h, ← hF, List.take_left']
    rfl
  · rw [← mkS_self (s.extract 9 12), ext_list, d9, show 12 - 9 = D.length by omega, List.take_left']
    rfl
  · rw [← mkS_self (s.extract 13 s.size), ext_list, d13, List.take_of_length_le (by omega)]
  · unfold byteI; rw [b8]; rfl
  · unfold byteI; rw [b12]; rfl

theorem st_parts {s : ByteArray} (h : stO s = true) : ptA s = s.extract 0 8 ∧ ptB s = s.extract 9 12 ∧ ptC s = stR s ∧ ptK s = true ∧ stQ s = true := by
  have hO := h
  unfold stO stH at hO
  simp only [Bool.and_eq_true, decide_eq_true_eq] at hO
  obtain ⟨⟨⟨⟨h13, hv⟩, _⟩, _⟩, ⟨hX, hC⟩, hT⟩ := hO
  have hX : numE 10 18 599 (s.extract 9 12).data.toList = 0 := eq_of_beq hX
  obtain ⟨hp, _, _, _⟩ := st_print h
  have hl := congrArg (fun x : ByteArray => x.data.toList) hp
  simp only [pst_list, ← ver_list hv] at hl
  obtain ⟨a1, a2, _⟩ := lin_cut hl.symm (ver_no_space hv)
  obtain ⟨n1, n2, n3⟩ := num_zero hX
  have n2 : stC s = valV 10 (s.extract 9 12).data.toList := n2
  have l3 : (s.extract 9 12).data.toList.length = 3 := by rw [ext_list, List.length_take, List.length_drop, ← Lib.size_eq]; omega
  have hpl : plainL (stC s) = (s.extract 9 12).data.toList := by
    rw [n2]
    exact digs_three l3 n1 (by rw [← n2]; exact hC)
  rw [hpl] at a2
  have hZ : (cutZ s 32).data.toList = (s.extract 9 12).data.toList ++ 32 :: (stR s).data.toList := by rw [a2, mkS_list]
  obtain ⟨b1, b2, b3⟩ := lin_cut hZ (num_no_space hX)
  have e1 : ptA s = s.extract 0 8 := by unfold ptA; rw [a1, mkS_self]
  have e2 : ptB s = s.extract 9 12 := by unfold ptB; rw [b1, mkS_self]
  have e3 : ptC s = stR s := by unfold ptC; rw [b2, mkS_self]
  refine ⟨e1, e2, e3, b3, ?_⟩
  unfold stQ vrB cdB
  have z3 : (s.extract 9 12).size = 3 := by rw [Lib.size_eq]; exact l3
  rw [e1, e2, e3, show ptK s = true from b3, decide_eq_true hv, hX, decide_eq_true z3, hT, decide_eq_true (show 100 ≤ numN 10 18 599 (s.extract 9 12).data.toList from hC)]
  rfl
theorem st_of_parts {s : ByteArray} (h : stQ s = true) : stO s = true := by
  unfold stQ vrB cdB at h
  simp only [Bool.and_eq_true, decide_eq_true_eq] at h
  obtain ⟨⟨⟨k, hv⟩, ⟨hX, h3⟩, hC⟩, hT⟩ := h
  have k1 : cutOk s 32 = true := by
    cases e : cutOk s 32 with
    | true => rfl
    | false =>
      exfalso
      have hz := (lin_cut_no e).2
      unfold ptK at k
      rw [hz] at k
      exact absurd k (by decide +kernel)
  have e1 := lin_cut_yes k1
  have e2 := lin_cut_yes k
  rw [e2] at e1
  obtain ⟨p1, p2, p3, p4, p5, p6⟩ := ext_parts e1 (by rw [← Lib.size_eq]; exact ver_size hv) (by rw [← Lib.size_eq]; exact h3)
  rw [mkS_self] at p1 p2 p3
  unfold stO stH stX stC stR
  rw [p1, p2, p3, p5, p6]
  have q1 : (numE 10 18 599 (cutA (cutZ s 32) 32).data.toList == 0) = true := hX
  have q2 : allB txtB (cutZ (cutZ s 32) 32).data.toList = true := hT
  rw [decide_eq_true p4, decide_eq_true (show 0 ≤ verI (cutA s 32) from hv), q1, q2, decide_eq_true (show 100 ≤ numN 10 18 599 (cutA (cutZ s 32) 32).data.toList from hC)]
  rfl
theorem st_by_parts (s : ByteArray) : stO s = stQ s := by
  cases e : stO s with
  | true => exact (st_parts e).2.2.2.2.symm
  | false =>
    cases e2 : stQ s with
    | false => rfl
    | true => rw [st_of_parts e2] at e; cases e
/-- What Status answers, by the two cuts. -/
theorem st_ans_yes {s : ByteArray} (hl : ¬ 8192 < s.size) (h : stQ s = true) : stN s = cdN (ptB s) ∧ stB s = ptC s ∧ stV' s = vrN (ptA s) ∧ stE s = 0 := by
  have ho := st_of_parts h
  obtain ⟨e1, e2, e3, _⟩ := st_parts ho
  obtain ⟨y1, y2, y3, y4⟩ := st_yes hl ho
  unfold stQ at h
  simp only [Bool.and_eq_true] at h
  refine ⟨?_, ?_, ?_, y4⟩
  · rw [y1]; unfold cdN; rw [if_pos h.1.2, e2]; rfl
  · rw [y2, e3]
  · rw [y3]; unfold vrN; rw [if_pos h.1.1.2, e1]
theorem st_ans_no {s : ByteArray} (hl : ¬ 8192 < s.size) (h : stQ s = false) : stN s = 0 ∧ stB s = ⟨#[]⟩ ∧ stV' s = 0 ∧ stE s = 20 := st_no hl (by rw [st_by_parts]; exact h)
/-- What Request answers, by the two cuts. -/
def shB (s : ByteArray) : Bool := allB visB s.data.toList && !s.toList.isEmpty
def rqQ (s : ByteArray) : Bool := (vrB (ptC s) && tokS (ptA s)) && shB (ptB s)
theorem rq_by_parts (s : ByteArray) : rqO s = rqQ s := by
  unfold rqO rqH rqQ vrB shB
  show (((tokS (ptA s) && !(ptB s).toList.isEmpty) && decide (0 ≤ verI (ptC s))) && allB visB (ptB s).data.toList) = _
  generalize tokS (ptA s) = a
  generalize (ptB s).toList.isEmpty = b
  generalize decide (0 ≤ verI (ptC s)) = c
  generalize allB visB (ptB s).data.toList = d
  cases a <;> cases b <;> cases c <;> cases d <;> rfl
theorem rq_ans_yes {s : ByteArray} (hl : ¬ 8192 < s.size) (h : rqQ s = true) : rqA s = ptA s ∧ rqB s = ptB s ∧ rqV s = vrN (ptC s) ∧ rqE s = 0 := by
  obtain ⟨y1, y2, y3, y4⟩ := rq_yes hl ((rq_by_parts s).trans h)
  unfold rqQ at h
  simp only [Bool.and_eq_true] at h
  refine ⟨y1, y2, ?_, y4⟩
  rw [y3]; unfold vrN; rw [if_pos h.1.1]; rfl
theorem rq_ans_no {s : ByteArray} (hl : ¬ 8192 < s.size) (h : rqQ s = false) : rqA s = ⟨#[]⟩ ∧ rqB s = ⟨#[]⟩ ∧ rqV s = 0 ∧ rqE s = 20 := rq_no hl ((rq_by_parts s).trans h)

/-! ### What is printed, as a join -/
def verS (n : Int) : ByteArray := (⟨#[72, 84, 84, 80, 47, 49, 46]⟩ : ByteArray) ++ mkS (plainL n)
theorem verS_list (n : Int) : (verS n).data.toList = [72, 84, 84, 80, 47, 49, 46] ++ plainL n := by
  unfold verS; rw [append_list, mkS_list]
theorem verS_0 : verS 0 = mkS ht0 := by decide +kernel
theorem verS_1 : verS 1 = mkS ht1 := by decide +kernel
theorem join_three (a b c : List UInt8) : Lib.join [a, b, c] [32] = a ++ 32 :: (b ++ 32 :: c) := by
  simp [Lib.join, List.intercalate]
theorem prq_join (m t : ByteArray) (v : Int) : mkS (Lib.join [m.data.toList, t.data.toList, (verS v).data.toList] [32]) = prqS m t v := by
  rw [join_three, verS_list, ← prq_list, mkS_self]
theorem pst_join (c : Int) (r : ByteArray) (v : Int) : mkS (Lib.join [(verS v).data.toList, (mkS (plainL c)).data.toList, r.data.toList] [32]) = pstS c r v := by
  rw [join_three, verS_list, mkS_list, ← pst_list, mkS_self]

end Go.Proofs.YtjcomlklmfeimaaGreatDoor
end

/-
  From a row's list of variables to what contracts ask: a listed table of integers holds just those integers, wherever it stands on the list.
-/
section
namespace Go.Proofs.YtjcomlklmfeimaaGreatDoor
open Go.RowKit

theorem vars_read_at {P : Program} {w : World} : ∀ {l : List (String × DataW Unit)} {ps : List MemPlace}, DataW.LaidVars P w l ps → ∀ {n : String} {d : DataW Unit}, (n, d) ∈ l →
    ∃ g t cs fuel p, P.globalNamed n = some g ∧ (P.globals[g]?).map (·.type) = some t ∧ w.var? P n = some cs ∧ DataW.trod (fun _ => ()) P w 0 (fun _ => true) false fuel t cs.toList = some (d, p)
  | [], _, _, _, _, hm => by cases hm
  | (n', d') :: r, ps, h, n, d, hm => by
    obtain ⟨g, t, cs, fuel, p, q, h1, h2, h3, h4, h5, _⟩ := h
    rcases List.mem_cons.1 hm with e | e
    · cases e
      exact ⟨g, t, cs, fuel, p, h1, h2, h3, h4⟩
    · exact vars_read_at h5 e

theorem tab_in {P : Program} {W : World} {l : List (String × DataW Unit)} {name : String} {d : DataW Unit} {k : IntKind} {zs : List Int} {g : Nat} {t e : TypeId} {n : Nat}
    (h : laidMet P l W) (hm : (name, d) ∈ l) (hd : d = Lib.tabData k zs) (hg : P.globalNamed name = some g) (hty : (P.globals[g]?).map (·.type) = some t)
    (ht : P.underlying t = some (.array n e)) (he : P.underlying e = some (.int k)) (hce : P.cellsOf e = 1) (hct : P.cellsOf t = n) : Lib.TabIs P W name k zs := by
  obtain ⟨ps, hv, _⟩ := h
  obtain ⟨g', t', cs, fuel, p, hg', ht', hvar, hr⟩ := vars_read_at hv hm
  obtain rfl := Option.some.inj (hg.symm.trans hg')
  obtain rfl := Option.some.inj (hty.symm.trans ht')
  subst hd
  unfold Lib.TabIs
  rw [hvar, ← Lib.cells_of_tab ht he hce hct hr]

end Go.Proofs.YtjcomlklmfeimaaGreatDoor
end
