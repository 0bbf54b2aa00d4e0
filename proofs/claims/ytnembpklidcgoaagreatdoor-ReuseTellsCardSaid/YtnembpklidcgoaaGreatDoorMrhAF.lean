/-
  Texts that the laws of this seat lean on, one behind the other.
-/
import Derived.Test.YtnembpklidcgoaaGreatDoorMrhAE
import Derived.Test.YtnembpklidcgoaaGreatDoorMrhX
import Derived.Deep.RegionHeld3
import Derived.Deep.AppendLies
import Derived.Test.YtnembpklidcgoaaGreatDoorMrhT
import Derived.Test.YtnembpklidcgoaaGreatDoorMrhG
import Derived.Test.YtnembpklidcgoaaGreatDoorMrhAA
import Derived.Deep.RegionLaw
import Derived.Test.YtnembpklidcgoaaGreatDoorMrhZ
import Derived.Test.YtnembpklidcgoaaGreatDoorMrhQ
import Derived.Test.YtnembpklidcgoaaGreatDoorMrhJ
set_option linter.unusedSimpArgs false
set_option linter.unusedVariables false
/-
  Contracts of the reference's Same, Picks, Match, Few, FewNames (layer 15).
-/
section
namespace Go.Proofs.YtnembpklidcgoaaGreatDoor
open Go.RowKit
set_option linter.unusedSimpArgs false

/-- Fields that are few and short, names too. -/
def FwF (L : List Fd) : Prop := L.length ≤ 1000 ∧ ∀ x ∈ L, x.2.size ≤ 1000 ∧ x.1.size ≤ 10000
def FwN (N : List (List UInt8)) : Prop := N.length ≤ 1000 ∧ ∀ x ∈ N, x.length ≤ 10000
/-- The answer is picks. -/
def IsPk (w : World) (X : List Pk) (e : Ending) (w' : World) : Prop := ∃ A c, e = .returned (.slice A X.length c) ∧ SlK w' A X.length c X ∧ Below w.heap.size w w'

end Go.Proofs.YtnembpklidcgoaaGreatDoor
end

/-
  Plain facts of layer 15: names are told in order, each once, with small letters, however they are told.
-/
section
namespace Go.Proofs.YtnembpklidcgoaaGreatDoor
open Go.RowKit

theorem les_irrefl : ∀ x : List UInt8, lesL x x = false
  | [] => rfl
  | a :: x => by
    show (if a ≠ a then _ else lesL x x) = false
    rw [if_neg (by simp), les_irrefl x]
theorem les_trans : ∀ {x y z : List UInt8}, lesL x y = true → lesL y z = true → lesL x z = true
  | [], [], _, h, _ => by cases h
  | _ :: _, [], _, h, _ => by cases h
  | _, _ :: _, [], _, h => by cases h
  | [], _ :: _, _ :: _, _, _ => rfl
  | a :: x, b :: y, c :: z, h, g => by
    have h : (if a ≠ b then decide (a.toNat < b.toNat) else lesL x y) = true := h
    have g : (if b ≠ c then decide (b.toNat < c.toNat) else lesL y z) = true := g
    show (if a ≠ c then decide (a.toNat < c.toNat) else lesL x z) = true
    by_cases e1 : a = b
    · subst e1
      rw [if_neg (by simp)] at h
      by_cases e2 : a = c
      · subst e2
        rw [if_neg (by simp)] at g ⊢
        exact les_trans h g
      · rw [if_pos e2] at g ⊢
        exact g
    · rw [if_pos e1, decide_eq_true_eq] at h
      by_cases e2 : b = c
      · subst e2
        rw [if_pos e1, decide_eq_true_eq]
        exact h
      · rw [if_pos e2, decide_eq_true_eq] at g
        have : a ≠ c := fun e => by subst e; omega
        rw [if_pos this, decide_eq_true_eq]
        omega
theorem les_total : ∀ {x y : List UInt8}, lesL x y = false → x ≠ y → lesL y x = true
  | [], [], _, h => absurd rfl h
  | [], _ :: _, h, _ => by cases h
  | _ :: _, [], _, _ => rfl
  | a :: x, b :: y, h, g => by
    have h : (if a ≠ b then decide (a.toNat < b.toNat) else lesL x y) = false := h
    show (if b ≠ a then decide (b.toNat < a.toNat) else lesL y x) = true
    by_cases e : a = b
    · subst e
      rw [if_neg (by simp)] at h ⊢
      exact les_total h (fun q => g (by rw [q]))
    · rw [if_pos e, decide_eq_false_iff_not] at h
      rw [if_pos (fun q => e q.symm), decide_eq_true_eq]
      have : a.toNat ≠ b.toNat := fun q => e (UInt8.toNat_inj.1 q)
      omega
theorem les_asymm {x y : List UInt8} (h : lesL x y = true) : lesL y x = false ∧ x ≠ y := by
  refine ⟨?_, fun e => by subst e; rw [les_irrefl] at h; cases h⟩
  cases g : lesL y x with
  | false => rfl
  | true =>
    have := les_trans h g
    rw [les_irrefl] at this
    cases this

/-- In order, each once. -/
def Srt (L : List (List UInt8)) : Prop := L.Pairwise fun a b => lesL a b = true
theorem put_iff (s : List UInt8) : ∀ (L : List (List UInt8)) (x : List UInt8), x ∈ putL s L ↔ x = s ∨ x ∈ L
  | [], x => by simp [putL]
  | y :: r, x => by
    have ih := put_iff s r x
    unfold putL
    split
    · rw [List.mem_cons, ih, List.mem_cons]
      constructor
      · rintro (h | h | h)
        · exact .inr (.inl h)
        · exact .inl h
        · exact .inr (.inr h)
      · rintro (h | h | h)
        · exact .inr (.inl h)
        · exact .inl h
        · exact .inr (.inr h)
    · split
      · rename_i h
        subst h
        rw [List.mem_cons]
        constructor
        · rintro (h | h)
          · exact .inl h
          · exact .inr (.inr h)
        · rintro (h | h | h)
          · exact .inl h
          · exact .inl h
          · exact .inr h
      · rw [List.mem_cons]
theorem put_srt (s : List UInt8) : ∀ {L : List (List UInt8)}, Srt L → Srt (putL s L)
  | [], _ => by unfold putL Srt; simp
  | y :: r, h => by
    have h := List.pairwise_cons.1 h
    unfold putL
    split
    · rename_i hy
      refine List.pairwise_cons.2 ⟨fun x hx => ?_, put_srt s h.2⟩
      rcases (put_iff s r x).1 hx with rfl | hx
      · exact hy
      · exact h.1 x hx
    · rename_i hy
      split
      · exact List.pairwise_cons.2 h
      · rename_i hne
        have hs : lesL s y = true := les_total (by simpa using hy) hne
        refine List.pairwise_cons.2 ⟨fun x hx => ?_, List.pairwise_cons.2 h⟩
        rw [List.mem_cons] at hx
        rcases hx with rfl | hx
        · exact hs
        · exact les_trans hs (h.1 x hx)
/-- May an element not be a name? -/
def badE (e : List UInt8) : Prop := e = [42] ∨ (e.isEmpty || !allB tokB e) = true
theorem nme_spec : ∀ (E out : List (List UInt8)), (nmE out E = none ∧ ∃ e ∈ E, badE e) ∨ ∃ o, nmE out E = some o ∧ (∀ e ∈ E, ¬ badE e) ∧ (Srt out → Srt o) ∧ ∀ x, x ∈ o ↔ x ∈ out ∨ ∃ e ∈ E, x = lowL e
  | [], out => .inr ⟨out, rfl, fun _ h => absurd h (by simp), id, fun x => by simp⟩
  | e :: r, out => by
    show ((if e = [42] ∨ (e.isEmpty || !allB tokB e) = true then none else nmE (putL (lowL e) out) r) = none ∧ _) ∨ _
    by_cases hb : badE e
    · exact .inl ⟨if_pos hb, e, List.mem_cons_self .., hb⟩
    · rcases nme_spec r (putL (lowL e) out) with ⟨h1, e2, h2, h3⟩ | ⟨o, h1, h2, h3, h4⟩
      · exact .inl ⟨(if_neg hb).trans h1, e2, List.mem_cons_of_mem _ h2, h3⟩
      · refine .inr ⟨o, ?_, fun q hq => ?_, fun hs => h3 (put_srt _ hs), fun x => ?_⟩
        · exact (if_neg hb).trans h1
        · rw [List.mem_cons] at hq
          rcases hq with rfl | hq
          · exact hb
          · exact h2 q hq
        · rw [h4 x, put_iff]
          constructor
          · rintro ((h | h) | ⟨q, hq, h⟩)
            · exact .inr ⟨e, List.mem_cons_self .., h⟩
            · exact .inl h
            · exact .inr ⟨q, List.mem_cons_of_mem _ hq, h⟩
          · rintro (h | ⟨q, hq, h⟩)
            · exact .inl (.inr h)
            · rw [List.mem_cons] at hq
              rcases hq with rfl | hq
              · exact .inl (.inl h)
              · exact .inr ⟨q, hq, h⟩
/-- A value that may not be. -/
def badV (v : List UInt8) : Prop := splitL v = none ∨ ∃ E, splitL v = some E ∧ ∃ e ∈ E, badE e
def inV (V : List (List UInt8)) (x : List UInt8) : Prop := ∃ v ∈ V, ∃ E, splitL v = some E ∧ ∃ e ∈ E, x = lowL e
end Go.Proofs.YtnembpklidcgoaaGreatDoor
end

/-
  Contracts of the reference's Match, Few, FewNames (layer 15).
-/
section
namespace Go.Proofs.YtnembpklidcgoaaGreatDoor
open Go.RowKit
set_option linter.unusedSimpArgs false

def nmP (P : List Pk) : List (List UInt8) := P.map fun x => x.n.data.toList
def FwP (P : List Pk) : Prop := P.length ≤ 1000 ∧ ∀ x ∈ P, x.n.size ≤ 10000
/-- Few picks, and short ones; few names, and short ones. -/
def fewK (P : List Pk) : Bool := decide (P.length ≤ 30) && P.all fun x => decide (x.n.size ≤ 500) && decide (x.v.size ≤ 500)
def fewN (N : List (List UInt8)) : Bool := decide (N.length ≤ 30) && N.all fun x => decide (x.length ≤ 500)
end Go.Proofs.YtnembpklidcgoaaGreatDoor
end

/-
  Plain facts of layer 15: a request matches its own picks, with names in small letters and one more field too.
-/
section
namespace Go.Proofs.YtnembpklidcgoaaGreatDoor
open Go.RowKit

/-- A field with its name in small letters. -/
def loF (x : Fd) : Fd := (mkS (lowL x.1.data.toList), x.2)
end Go.Proofs.YtnembpklidcgoaaGreatDoor
end

/-
  Contracts of package vary's squeezed, namesOf, Picks, Match, Same.
-/
section
namespace Go.Proofs.YtnembpklidcgoaaGreatDoor
open Go.RowKit
set_option linter.unusedSimpArgs false

/-- A field with its value squeezed. -/
def sqF (x : Fd) : Fd := (x.1, mkS (sglL false x.2.data.toList))
def fdE (x : Fd) : List Value := [.string x.1, .string x.2]
def nmC (x : Pk) : List Value := [.string x.n]
def pkE3 (x : Pk) : List Value := [.string x.n, .bool x.h, .string x.v]
end Go.Proofs.YtnembpklidcgoaaGreatDoor
end

/-
  Contracts of package etag's inner, unquoted, Text, Strong, Weak.
-/
section
namespace Go.Proofs.YtnembpklidcgoaaGreatDoor
open Go.RowKit
set_option linter.unusedSimpArgs false

theorem inner_any (c : Int) (w : World) (h0 : 0 ≤ c) (h1 : c ≤ 255) :
    Calls Tryz.prog 127 #[.int .u8 c] w fun e w' => e = .returned (.bool (innB c)) ∧ w = w' := by
  have both : ∀ t : Bool, t = true ∨ t = false := fun t => by cases t <;> simp
  rcases both (c == 33) with e1 | e1
  · have hr : innB c = true := by unfold innB; rw [e1]; rfl
    rw [hr]
    clear hr
    go_enter Tryz.func127, Tryz.ntmps127
    go_wp2_with fail
    go_ret
    exact ⟨rfl, rfl⟩
  · by_cases h2 : (35 : Int) ≤ c
    · by_cases h3 : c ≤ (126 : Int)
      · have hr : innB c = true := by
          have h4 : (c == 127) = false := by rw [beq_eq_false_iff_ne]; omega
          unfold innB
          rw [e1, h4, decide_eq_true h2]; rfl
        rw [hr]
        clear hr
        go_enter Tryz.func127, Tryz.ntmps127
        go_wp2_with fail
        go_ret
        exact ⟨rfl, rfl⟩
      · by_cases h5 : (128 : Int) ≤ c
        · have hr : innB c = true := by
            have h4 : (c == 127) = false := by rw [beq_eq_false_iff_ne]; omega
            unfold innB
            rw [e1, h4, decide_eq_true h2]; rfl
          rw [hr]
          clear hr
          go_enter Tryz.func127, Tryz.ntmps127
          go_wp2_with fail
          go_ret
          exact ⟨rfl, rfl⟩
        · have hr : innB c = false := by
            have h4 : (c == 127) = true := by rw [beq_iff_eq]; omega
            unfold innB
            rw [e1, h4]; simp
          rw [hr]
          clear hr
          go_enter Tryz.func127, Tryz.ntmps127
          go_wp2_with fail
          go_ret
          exact ⟨rfl, rfl⟩
    · have h5 : ¬ (128 : Int) ≤ c := by omega
      have hr : innB c = false := by unfold innB; rw [e1, decide_eq_false h2]; rfl
      rw [hr]
      clear hr
      go_enter Tryz.func127, Tryz.ntmps127
      go_wp2_with fail
      go_ret
      exact ⟨rfl, rfl⟩

set_option maxHeartbeats 4000000 in
set_option maxRecDepth 100000 in
theorem unq_any' (s : ByteArray) (w : World) (hs : s.size ≤ 100000000) :
    Calls Tryz.prog 77 #[.string s] w fun e w' => e = .returned (.tuple #[.string (unO s), .bool (unB s)]) ∧ w = w' := by
  have both : ∀ t : Bool, t = true ∨ t = false := fun t => by cases t <;> simp
  have c1 : ∀ W, Calls Tryz.prog 76 #[.string s, .string ⟨#[34]⟩] W fun e w' => e = .returned (.tuple #[.string (opR s), .bool (opB s)]) ∧ w' = W := fun W => Tryz.strings_CutPrefix s ⟨#[34]⟩ W
  have hr := opR_le s
  have c2 : ∀ W, Calls Tryz.prog 126 #[.string (opR s), .string ⟨#[34]⟩] W fun e w' => e = .returned (.tuple #[.string (clR (opR s)), .bool (clB (opR s))]) ∧ w' = W := fun W => Tryz.strings_CutSuffix (opR s) ⟨#[34]⟩ W (by omega)
  have hm := clR_le (opR s)
  rcases both (opB s) with ho | ho
  · rcases both (clB (opR s)) with hc | hc
    · have HY := Lib.hid (un_both ho hc)
      rw [ho] at c1
      rw [hc] at c2
      have hms : (clR (opR s)).size ≤ 100000000 := by omega
      have C1 := Lib.hid c1
      have C2 := Lib.hid c2
      clear c1 c2 ho hc hm hr
      generalize clR (opR s) = M at *
      generalize opR s = R at *
      go_enter Tryz.func77, Tryz.ntmps77
      go_wp2_with (first
        | (go_at_call 76; refine (C1.out _).mono ?_; rintro e w1 ⟨rfl, rfl⟩)
        | (go_at_call 126; refine (C2.out _).mono ?_; rintro e w1 ⟨rfl, rfl⟩))
      go_loop [27] (fun i => ∃ k : Nat, k ≤ M.size ∧ i = .int .i64 k ∧ Hid (allB innB (M.data.toList.take k) = true)) (fun i => M.size - (intOf i).toNat)
      case atStart => exact ⟨0, Nat.zero_le _, rfl, rfl⟩
      case round =>
        obtain ⟨k, hk, rfl, hf⟩ := hrel
        by_cases hlt : k < M.size
        · have hbd := byte_wf M[k]
          have ci := fun W => inner_any (M[k].toNat : Int) W hbd.1 hbd.2
          rcases both (innB (M[k].toNat : Int)) with hin | hin
          · have HA : Hid (allB innB (M.data.toList.take (k + 1)) = true) := by show _ = _; rw [allB_take innB M k hlt, hf.out, hin]; rfl
            rw [hin] at ci
            have CI := Lib.hid ci
            clear hin hf hbd ci
            go_wp2_with (go_at_call 127; refine (CI.out _).mono ?_; rintro e w1 ⟨rfl, rfl⟩)
            go_round
            case rel => exact ⟨k + 1, by omega, by go_num, HA⟩
            case measure => simp [intOf]; omega
          · have HA : Hid (allB innB M.data.toList = false) := allB_false innB M k hlt hin
            have HN := Lib.hid (un_no (HY.out.1.trans HA.out))
            have HN2 := Lib.hid (HY.out.1.trans HA.out)
            rw [hin] at ci
            have CI := Lib.hid ci
            clear hin hf hbd ci
            go_wp2_with (go_at_call 127; refine (CI.out _).mono ?_; rintro e w1 ⟨rfl, rfl⟩)
            go_ret2
            exact ⟨by rw [HN.out, HN2.out]; rfl, rfl⟩
        · have HA : Hid (allB innB M.data.toList = true) := allB_full innB M k (by omega) hf.out
          have HN2 := Lib.hid (HY.out.1.trans HA.out)
          have HN := Lib.hid ((un_yes HN2.out).trans HY.out.2)
          clear hf
          go_wp2_with fail
          go_ret2
          exact ⟨by rw [HN.out, HN2.out]; rfl, rfl⟩
    · have HN2 := Lib.hid (un_cl hc)
      have HN := Lib.hid (un_no HN2.out)
      rw [ho] at c1
      rw [hc] at c2
      have C1 := Lib.hid c1
      have C2 := Lib.hid c2
      clear c1 c2 ho hc hm hr
      generalize clR (opR s) = M at *
      generalize opR s = R at *
      go_enter Tryz.func77, Tryz.ntmps77
      go_wp2_with (first
        | (go_at_call 76; refine (C1.out _).mono ?_; rintro e w1 ⟨rfl, rfl⟩)
        | (go_at_call 126; refine (C2.out _).mono ?_; rintro e w1 ⟨rfl, rfl⟩))
      go_ret2
      exact ⟨by rw [HN.out, HN2.out]; rfl, rfl⟩
  · have HN2 := Lib.hid (un_op ho)
    have HN := Lib.hid (un_no HN2.out)
    rw [ho] at c1
    have C1 := Lib.hid c1
    have C2 := Lib.hid c2
    clear c1 c2 ho hm hr
    generalize clR (opR s) = M at *
    generalize clB (opR s) = b at *
    generalize opR s = R at *
    go_enter Tryz.func77, Tryz.ntmps77
    go_wp2_with (first
      | (go_at_call 76; refine (C1.out _).mono ?_; rintro e w1 ⟨rfl, rfl⟩)
      | (go_at_call 126; refine (C2.out _).mono ?_; rintro e w1 ⟨rfl, rfl⟩))
    go_ret2
    exact ⟨by rw [HN.out, HN2.out]; rfl, rfl⟩

end Go.Proofs.YtnembpklidcgoaaGreatDoor
end

/-
  Contracts of package etag's Parse and cut.
-/
section
namespace Go.Proofs.YtnembpklidcgoaaGreatDoor
open Go.RowKit
set_option linter.unusedSimpArgs false

set_option maxHeartbeats 4000000 in
set_option maxRecDepth 100000 in
theorem etP_any (s : ByteArray) (w : World) (hs : s.size ≤ 100000000) :
    Calls Tryz.prog 29 #[.string s] w fun e w' => e = .returned (.tuple #[tgV (tgO s), .bool (tgB s)]) ∧ Below w.heap.size w w' := by
  have both : ∀ t : Bool, t = true ∨ t = false := fun t => by cases t <;> simp
  have c1 : ∀ W, Calls Tryz.prog 76 #[.string s, .string ⟨#[87, 47]⟩] W fun e w' => e = .returned (.tuple #[.string (offW s), .bool (wkB s)]) ∧ w' = W := fun W => by
    rw [← pre_wk, ← pre_off]
    exact Tryz.strings_CutPrefix s ⟨#[87, 47]⟩ W
  have c2 := fun W => unq_any' (offW s) W (by have := offW_le s; omega)
  have C1 := Lib.hid c1
  clear c1
  rcases both (unB (offW s)) with hu | hu
  · rw [tgO_yes hu, tgB_un, hu]
    rw [hu] at c2
    have C2 := Lib.hid c2
    clear c2 hu
    generalize unO (offW s) = M at *
    generalize wkB s = b at *
    generalize offW s = R at *
    unfold tgV
    have HZ : Hid ((w.alloc (.cells #[.bool b, .string M] 31)).heap[w.heap.size]? = some (.cells #[.bool b, .string M] 31 (0, 0))) := heap_alloc_new w _
    have HB : Hid (Below w.heap.size w (w.alloc (.cells #[.bool b, .string M] 31))) := (Below.refl _ _).alloc (Nat.le_refl _) _
    go_enter Tryz.func29, Tryz.ntmps29
    go_wp2_with (first
      | (go_at_call 76; refine (C1.out _).mono ?_; rintro e w1 ⟨rfl, rfl⟩)
      | (go_at_call 77; refine (C2.out _).mono ?_; rintro e w1 ⟨rfl, rfl⟩))
    refine bodyPost_ret (results_cell_row_tmp rfl _ _ w.heap.size 31 #[.bool b, .string M] (0, 0) _ rfl HZ.out Tryz.underlying31 rfl (by kernel_rfl)) rfl ?_
    exact ⟨rfl, HB.out⟩
  · rw [tgO_no hu, tgB_un, hu]
    rw [hu] at c2
    have C2 := Lib.hid c2
    clear c2 hu
    generalize unO (offW s) = M at *
    generalize wkB s = b at *
    generalize offW s = R at *
    unfold tgV
    have HZ : Hid ((w.alloc (.cells #[.bool false, .string ⟨#[]⟩] 31)).heap[w.heap.size]? = some (.cells #[.bool false, .string ⟨#[]⟩] 31 (0, 0))) := heap_alloc_new w _
    have HB : Hid (Below w.heap.size w (w.alloc (.cells #[.bool false, .string ⟨#[]⟩] 31))) := (Below.refl _ _).alloc (Nat.le_refl _) _
    go_enter Tryz.func29, Tryz.ntmps29
    go_wp2_with (first
      | (go_at_call 76; refine (C1.out _).mono ?_; rintro e w1 ⟨rfl, rfl⟩)
      | (go_at_call 77; refine (C2.out _).mono ?_; rintro e w1 ⟨rfl, rfl⟩))
    refine bodyPost_ret (results_cell_row_tmp rfl _ _ w.heap.size 31 #[.bool false, .string ⟨#[]⟩] (0, 0) _ rfl HZ.out Tryz.underlying31 rfl (by kernel_rfl)) rfl ?_
    exact ⟨rfl, HB.out⟩

end Go.Proofs.YtnembpklidcgoaaGreatDoor
end
