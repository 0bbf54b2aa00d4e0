/-
  Texts that the laws of this seat lean on, one behind the other.
-/
import Derived.Test.YtnembpklidcgoaaGreatDoorMrgS
import Derived.Shelf.RegionOpenPlain
import Derived.Lib.Overlaps
import Derived.Lib.AppendZerosOnto
import Derived.Laws.CopyRow
import Derived.Laws.CopyOwn
import Derived.Laws.Externs
import Derived.Laws.NewBlocks
import Derived.Test.YtnembpklidcgoaaGreatDoorMrgM
import Derived.Laws.Cover1
import Derived.Lib.MinMax
import Derived.Test.YtnembpklidcgoaaGreatDoorMrgB
import Derived.Test.YtnembpklidcgoaaGreatDoorMrgL
import Derived.IntWalk
import Derived.Test.YtnembpklidcgoaaGreatDoorMrgO
import Derived.Deep.QuietTactic
import Derived.BigQuiet
/-
  Contract of slices.Insert of one field into a row of the call's own.
-/
section
namespace Go.Proofs.YtnembpklidcgoaaGreatDoor
open Go.RowKit

end Go.Proofs.YtnembpklidcgoaaGreatDoor
end

/-
  Contracts of the reference's Least, has, least, greatest (layer 13).
-/
section
namespace Go.Proofs.YtnembpklidcgoaaGreatDoor
open Go.RowKit

/-! ### Names in a slice -/
def hsN (N : List (List UInt8)) (nm : ByteArray) : Bool := N.any fun x => x == nm.data.toList
/-! ### The least and the greatest number of a name -/
theorem sec_bd (l : List UInt8) : 0 ≤ secN l ∧ secN l ≤ 2147483648 := by
  unfold secN
  split
  · exact ⟨cutV_nn (by decide) (by decide) l, cutV_le (by decide) l⟩
  · exact ⟨Int.le_refl _, by decide⟩
theorem lst_bd (nm : ByteArray) (n : Int) (d : Dv) (h : -1 ≤ n ∧ n ≤ 2147483648) : -1 ≤ lstS nm n d ∧ lstS nm n d ≤ 2147483648 := by
  have := sec_bd d.2
  unfold lstS leaN
  repeat' split
  all_goals omega
end Go.Proofs.YtnembpklidcgoaaGreatDoor
end

/-
  Plain functions of layer 13's program, without the program: a table of directives, row by row.
-/
section
namespace Go.Proofs.YtnembpklidcgoaaGreatDoor
open Go.RowKit

theorem sec_or (v : List UInt8) : (if secB v = true then secN v else 0) = secN v := by
  unfold secB secN
  cases h : allB (isD 10) v with
  | false => simp
  | true =>
    cases v with
    | nil => simp; decide
    | cons x v => simp

/-- The table's names. -/
def rowN : Nat → ByteArray
  | 0 => nsS | 1 => ncS | 2 => pvS | 3 => puS | 4 => mrS | 5 => xrS | 6 => oiS | 7 => maS | 8 => smS | _ => mfS
/-- A row's effect. -/
def effC : Nat → Ctl → List UInt8 → Ctl
  | 0, c, _ => { c with ns := true }
  | 1, c, _ => { c with nc := true }
  | 2, c, _ => { c with pv := true }
  | 3, c, _ => { c with pu := true }
  | 4, c, _ => { c with mc := true }
  | 5, c, _ => { c with mc := true }
  | 6, c, _ => { c with oi := true }
  | 7, c, v => { c with ma := leaN c.ma (secN v) }
  | 8, c, v => { c with sh := leaN c.sh (secN v) }
  | _, c, v => { c with mf := max c.mf (if secB v then secN v else 2147483648) }
/-- A row at a directive. -/
def rowC (i : Nat) (d : Dv) (c : Ctl) : Ctl := if d.1 = (rowN i).data.toList then effC i c d.2 else c
/-- The first rows. -/
def rowsC (d : Dv) (c : Ctl) : Nat → Ctl
  | 0 => c
  | k + 1 => rowC k d (rowsC d c k)
/-- The whole table. -/
def stepC (c : Ctl) (d : Dv) : Ctl := rowsC d c 10
def readC (c : Ctl) (e : List UInt8) : Ctl := match dvO e with | some d => stepC c d | none => c

/-- The numbers are a word's. -/
def CtB (c : Ctl) : Prop := (-9223372036854775808 ≤ c.ma ∧ c.ma ≤ 9223372036854775807) ∧ (-9223372036854775808 ≤ c.sh ∧ c.sh ≤ 9223372036854775807) ∧ (-9223372036854775808 ≤ c.mf ∧ c.mf ≤ 9223372036854775807)

theorem rowC_0 (d : Dv) (c : Ctl) : rowC 0 d c = { c with ns := c.ns || (d.1 == nsS.data.toList) } := by
  show (if d.1 = nsS.data.toList then ({ c with ns := true } : Ctl) else c) = _
  by_cases h : d.1 = nsS.data.toList
  · rw [if_pos h, beq_iff_eq.2 h, Bool.or_true]
  · rw [if_neg h, beq_eq_false_iff_ne.2 h, Bool.or_false]
theorem rowC_1 (d : Dv) (c : Ctl) : rowC 1 d c = { c with nc := c.nc || (d.1 == ncS.data.toList) } := by
  show (if d.1 = ncS.data.toList then ({ c with nc := true } : Ctl) else c) = _
  by_cases h : d.1 = ncS.data.toList
  · rw [if_pos h, beq_iff_eq.2 h, Bool.or_true]
  · rw [if_neg h, beq_eq_false_iff_ne.2 h, Bool.or_false]
theorem rowC_2 (d : Dv) (c : Ctl) : rowC 2 d c = { c with pv := c.pv || (d.1 == pvS.data.toList) } := by
  show (if d.1 = pvS.data.toList then ({ c with pv := true } : Ctl) else c) = _
  by_cases h : d.1 = pvS.data.toList
  · rw [if_pos h, beq_iff_eq.2 h, Bool.or_true]
  · rw [if_neg h, beq_eq_false_iff_ne.2 h, Bool.or_false]
theorem rowC_3 (d : Dv) (c : Ctl) : rowC 3 d c = { c with pu := c.pu || (d.1 == puS.data.toList) } := by
  show (if d.1 = puS.data.toList then ({ c with pu := true } : Ctl) else c) = _
  by_cases h : d.1 = puS.data.toList
  · rw [if_pos h, beq_iff_eq.2 h, Bool.or_true]
  · rw [if_neg h, beq_eq_false_iff_ne.2 h, Bool.or_false]
theorem rowC_4 (d : Dv) (c : Ctl) : rowC 4 d c = { c with mc := c.mc || (d.1 == mrS.data.toList) } := by
  show (if d.1 = mrS.data.toList then ({ c with mc := true } : Ctl) else c) = _
  by_cases h : d.1 = mrS.data.toList
  · rw [if_pos h, beq_iff_eq.2 h, Bool.or_true]
  · rw [if_neg h, beq_eq_false_iff_ne.2 h, Bool.or_false]
theorem rowC_5 (d : Dv) (c : Ctl) : rowC 5 d c = { c with mc := c.mc || (d.1 == xrS.data.toList) } := by
  show (if d.1 = xrS.data.toList then ({ c with mc := true } : Ctl) else c) = _
  by_cases h : d.1 = xrS.data.toList
  · rw [if_pos h, beq_iff_eq.2 h, Bool.or_true]
  · rw [if_neg h, beq_eq_false_iff_ne.2 h, Bool.or_false]
theorem rowC_6 (d : Dv) (c : Ctl) : rowC 6 d c = { c with oi := c.oi || (d.1 == oiS.data.toList) } := by
  show (if d.1 = oiS.data.toList then ({ c with oi := true } : Ctl) else c) = _
  by_cases h : d.1 = oiS.data.toList
  · rw [if_pos h, beq_iff_eq.2 h, Bool.or_true]
  · rw [if_neg h, beq_eq_false_iff_ne.2 h, Bool.or_false]
theorem rowC_7 (d : Dv) (c : Ctl) : rowC 7 d c = { c with ma := lstS maS c.ma d } := by
  show (if d.1 = maS.data.toList then ({ c with ma := leaN c.ma (secN d.2) } : Ctl) else c) = _
  unfold lstS
  by_cases h : d.1 = maS.data.toList
  · rw [if_pos h, if_pos (beq_iff_eq.2 h)]
  · rw [if_neg h, if_neg (by rw [beq_eq_false_iff_ne.2 h]; simp)]
theorem rowC_8 (d : Dv) (c : Ctl) : rowC 8 d c = { c with sh := lstS smS c.sh d } := by
  show (if d.1 = smS.data.toList then ({ c with sh := leaN c.sh (secN d.2) } : Ctl) else c) = _
  unfold lstS
  by_cases h : d.1 = smS.data.toList
  · rw [if_pos h, if_pos (beq_iff_eq.2 h)]
  · rw [if_neg h, if_neg (by rw [beq_eq_false_iff_ne.2 h]; simp)]
theorem rowC_9 (d : Dv) (c : Ctl) : rowC 9 d c = { c with mf := grtS mfS c.mf d } := by
  show (if d.1 = mfS.data.toList then ({ c with mf := max c.mf (if secB d.2 then secN d.2 else 2147483648) } : Ctl) else c) = _
  unfold grtS
  by_cases h : d.1 = mfS.data.toList
  · rw [if_pos h, if_pos (beq_iff_eq.2 h)]
  · rw [if_neg h, if_neg (by rw [beq_eq_false_iff_ne.2 h]; simp)]

theorem stepC_eq (c : Ctl) (d : Dv) : stepC c d =
    ⟨c.ns || (d.1 == nsS.data.toList), c.nc || (d.1 == ncS.data.toList), c.pv || (d.1 == pvS.data.toList), c.pu || (d.1 == puS.data.toList), (c.mc || (d.1 == mrS.data.toList)) || (d.1 == xrS.data.toList), c.oi || (d.1 == oiS.data.toList), lstS maS c.ma d, lstS smS c.sh d, grtS mfS c.mf d⟩ := by
  unfold stepC
  simp only [rowsC, rowC_0, rowC_1, rowC_2, rowC_3, rowC_4, rowC_5, rowC_6, rowC_7, rowC_8, rowC_9]

theorem hasD_cons (d : Dv) (D : List Dv) (nm : ByteArray) : hasD (d :: D) nm = ((d.1 == nm.data.toList) || hasD D nm) := rfl
theorem fold_stepC : ∀ (D : List Dv) (c : Ctl), D.foldl stepC c =
    ⟨c.ns || hasD D nsS, c.nc || hasD D ncS, c.pv || hasD D pvS, c.pu || hasD D puS, c.mc || (hasD D mrS || hasD D xrS), c.oi || hasD D oiS, D.foldl (lstS maS) c.ma, D.foldl (lstS smS) c.sh, D.foldl (grtS mfS) c.mf⟩
  | [], c => by simp [hasD]
  | d :: D, c => by
    rw [List.foldl_cons, fold_stepC D, stepC_eq]
    simp only [List.foldl_cons, hasD_cons, Ctl.mk.injEq, Bool.or_assoc, true_and, and_true]
    rw [Bool.or_left_comm (d.1 == xrS.data.toList)]

theorem fold_readC : ∀ (E : List (List UInt8)) (c : Ctl), E.foldl readC c = (E.filterMap dvO).foldl stepC c
  | [], _ => rfl
  | e :: E, c => by
    rw [List.foldl_cons, fold_readC E, List.filterMap_cons]
    unfold readC
    cases dvO e <;> rfl

def ct0 : Ctl := ⟨false, false, false, false, false, false, -1, -1, -1⟩
theorem ctD_fold (D : List Dv) (fine : Bool) : ctD D fine = if fine = true then D.foldl stepC ct0 else { D.foldl stepC ct0 with ns := true, nc := true } := by
  rw [fold_stepC]
  unfold ctD ct0 lstD grtD
  cases fine <;> simp

end Go.Proofs.YtnembpklidcgoaaGreatDoor
end

/-
  Contracts of package control's Least and seconds.
-/
section
namespace Go.Proofs.YtnembpklidcgoaaGreatDoor
open Go.RowKit

theorem lst_any (a b : Int) (w : World) :
    Calls Tryz.prog 111 #[.int .i64 a, .int .i64 b] w fun e w' => e = .returned (.int .i64 (leaN a b)) ∧ w = w' := by
  unfold leaN
  by_cases ha : a < 0
  · by_cases hb : b < 0
    · rw [if_pos (.inl ha)]
      have hm : max (max a b) (-1) = -1 := by omega
      rw [hm]
      go_enter Tryz.func111, Tryz.ntmps111
      go_wp2_with fail
      go_ret
      exact ⟨rfl, rfl⟩
    · rw [if_pos (.inl ha)]
      have hm : max (max a b) (-1) = b := by omega
      rw [hm]
      go_enter Tryz.func111, Tryz.ntmps111
      go_wp2_with fail
      go_ret
      exact ⟨rfl, rfl⟩
  · by_cases hb : b < 0
    · rw [if_pos (.inr hb)]
      have hm : max (max a b) (-1) = a := by omega
      rw [hm]
      go_enter Tryz.func111, Tryz.ntmps111
      go_wp2_with fail
      go_ret
      exact ⟨rfl, rfl⟩
    · rw [if_neg (by omega)]
      obtain ⟨m, hm⟩ : ∃ m, m = min a b := ⟨_, rfl⟩
      rw [← hm]
      have HR := Lib.hid hm
      clear hm
      go_enter Tryz.func111, Tryz.ntmps111
      go_wp2_with fail
      go_ret
      exact ⟨by rw [HR.out]; rfl, rfl⟩

theorem secs_any (v : ByteArray) (o : Int) (w : World) :
    Calls Tryz.prog 112 #[.string v, .int .i64 o] w fun e w' => e = .returned (.int .i64 (if secB v.data.toList = true then secN v.data.toList else o)) ∧ Below w.heap.size w w' := by
  have C := Lib.hid (seconds_any v w)
  generalize secN v.data.toList = n at *
  generalize secB v.data.toList = b at *
  cases b
  all_goals
    simp only [if_true, if_false, Bool.false_eq_true]
    go_enter Tryz.func112, Tryz.ntmps112
    go_wp2_with fail
    refine C.out.mono ?_
    rintro e w1 ⟨rfl, hb1⟩
    go_wp2_with fail
    go_ret
    exact ⟨rfl, hb1⟩

end Go.Proofs.YtnembpklidcgoaaGreatDoor
end

/-
  Contracts of the reference's before, single (layer 15).
-/
section
namespace Go.Proofs.YtnembpklidcgoaaGreatDoor
open Go.RowKit
set_option linter.unusedSimpArgs false

end Go.Proofs.YtnembpklidcgoaaGreatDoor
end

/-
  Contracts of package vary's blank, squeeze.
-/
section
namespace Go.Proofs.YtnembpklidcgoaaGreatDoor
open Go.RowKit
set_option linter.unusedSimpArgs false

end Go.Proofs.YtnembpklidcgoaaGreatDoor
end
