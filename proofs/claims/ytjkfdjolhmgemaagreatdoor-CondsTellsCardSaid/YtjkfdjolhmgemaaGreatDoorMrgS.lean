/-
  Texts that the laws of this seat lean on, one behind the other.
-/
import Derived.Test.YtjkfdjolhmgemaaGreatDoorMrgR
import Derived.Shelf.RegionOpenPlain
import Derived.Lib.Overlaps
import Derived.Lib.AppendZerosOnto
import Derived.Laws.CopyRow
import Derived.Laws.CopyOwn
import Derived.Laws.Externs
import Derived.Laws.NewBlocks
import Derived.Test.YtjkfdjolhmgemaaGreatDoorMrgM
import Derived.Laws.Cover1
import Derived.Lib.MinMax
import Derived.Test.YtjkfdjolhmgemaaGreatDoorMrgO
import Derived.Deep.QuietTactic
import Derived.BigQuiet
import Derived.Test.YtjkfdjolhmgemaaGreatDoorMrgB
import Derived.Test.YtjkfdjolhmgemaaGreatDoorMrgL
import Derived.IntWalk
set_option linter.unusedSimpArgs false
set_option linter.unusedVariables false
/-
  Contract of slices.EqualFunc on fields, for any test that is handed in; the closures of package fields: named, not.
-/
section
namespace Go.Proofs.YtjkfdjolhmgemaaGreatDoor
open Go.RowKit

/-! ### named, not -/
theorem named_any (A : Option Addr) (n c : Nat) (v : Value) (hv : v = .slice A n c) (w : World) :
    Calls Tryz.prog 54 #[v] w fun e w' => e = .returned (.func (.func 77) #[] #[.pointer (some ⟨w.heap.size, 0, none⟩)]) ∧ w.alloc (.cells #[v] 64) = w' := by
  have hmf : ∀ (fn : Fn) (first cap : Array Value) (w : World), (Instr.makeFunc fn first cap).run Tryz.prog w = .ok (.func fn first cap) w := fun _ _ _ _ => rfl
  subst hv
  go_enter Tryz.func54, Tryz.ntmps54
  go_wp2
  go_ret
  exact ⟨rfl, rfl⟩

theorem not_any (g : Nat) (caps : Array Value) (v : Value) (hv : v = .func (.func g) #[] caps) (w : World) :
    Calls Tryz.prog 53 #[v] w fun e w' => e = .returned (.func (.func 76) #[] #[.pointer (some ⟨w.heap.size, 0, none⟩)]) ∧ w.alloc (.cells #[v] 77) = w' := by
  have hmf : ∀ (fn : Fn) (first cap : Array Value) (w : World), (Instr.makeFunc fn first cap).run Tryz.prog w = .ok (.func fn first cap) w := fun _ _ _ _ => rfl
  subst hv
  go_enter Tryz.func53, Tryz.ntmps53
  go_wp2
  go_ret
  exact ⟨rfl, rfl⟩

theorem named_in (a : Nat) (A : Option Addr) (n c : Nat) (names : List (List UInt8)) (W : World) (ha : W.cell? ⟨a, 0, none⟩ = some (.slice A n c)) (h : SlS W A n c names) (hz : ∀ x ∈ names, x.length ≤ maxLen) (hn : n ≤ 1000000000) (x : Fd) (hx : x.1.size ≤ maxLen) :
    Calls Tryz.prog 77 #[fdV x, .pointer (some ⟨a, 0, none⟩)] W fun e w' => e = .returned (.bool (nmd names x)) ∧ Below W.heap.size W w' := by
  have hlen := h.len
  subst hlen
  obtain ⟨f, v⟩ := x
  have hb0 : Below W.heap.size W (W.alloc (.cells #[.string f, .string v] 43)) := (Below.refl _ _).alloc (Nat.le_refl _) _
  have h0 := heap_alloc_new W (.cells #[.string f, .string v] 43)
  have ha0 := Lib.cell?_alloc_some (.cells #[.string f, .string v] 43) ha
  unfold fdV
  go_enter Tryz.func77, Tryz.ntmps77
  go_wp2_with fail
  go_loopw [8] (fun i wr => ∃ k : Nat, k ≤ names.length ∧ i = .int .i64 k ∧ Hid ((names.take k).any (fun n => sameB f (mkS n)) = false) ∧ Hid (wr.heap[W.heap.size]? = some (.cells #[.string f, .string v] 43 (0, 0))) ∧ Below W.heap.size W wr) (fun i _ => names.length - (intOf i).toNat)
  case atStart => exact ⟨0, Nat.zero_le _, rfl, rfl, h0, hb0⟩
  case round =>
    obtain ⟨k, hk, rfl, hf, hZ, hbel⟩ := hrel
    by_cases hlt : k < names.length
    · obtain ⟨ad, rfl, hc⟩ := h.at_ (by omega)
      have hcell := cell_kept hbel (hc k names[k] (List.getElem?_eq_getElem hlt))
      obtain ⟨z0, z1⟩ := zero_two hZ.out
      have hxl := hz _ (List.getElem_mem hlt)
      have HT : Hid ((names.take (k + 1)).any (fun n => sameB f (mkS n)) = sameB f (mkS names[k])) := by
        show _ = _
        rw [List.take_succ_eq_append_getElem hlt, List.any_append, hf.out]; simp
      have HM : Hid (sameB f (mkS names[k]) = true → nmd names (f, v) = true) := fun h => List.any_eq_true.2 ⟨names[k], List.getElem_mem hlt, h⟩
      have hys : (mkS names[k]).size ≤ maxLen := by rw [mkS_size]; exact hxl
      obtain ⟨y, hy⟩ : ∃ y, y = mkS names[k] := ⟨_, rfl⟩
      rw [← hy] at hcell HT HM hys
      have hi0 : (0 : Int) ≤ (k : Int) := by omega
      have hi1 : (k : Int) < (names.length : Int) := by omega
      clear hy hf hc
      cases hsm : sameB f y with
      | true =>
        have HS := Lib.hid hsm
        have HR := Lib.hid (HM.out hsm)
        clear hsm HM HT
        go_wp2_with fail
        refine (same_any f y _ hx hys).mono ?_
        rintro e w2 ⟨he, hb2⟩
        rw [HS.out] at he
        subst he
        go_wp2_with fail
        go_ret
        exact ⟨by rw [HR.out]; rfl, hbel.trans (hb2.mono hbel.size)⟩
      | false =>
        have HS := Lib.hid hsm
        have HR := Lib.hid (HT.out.trans hsm)
        clear hsm HM HT
        go_wp2_with fail
        refine (same_any f y _ hx hys).mono ?_
        rintro e w2 ⟨he, hb2⟩
        rw [HS.out] at he
        subst he
        go_wp2_with fail
        go_roundw
        case rel => exact ⟨k + 1, by omega, by go_num, HR, zero_still hb2 hZ.out, hbel.trans (hb2.mono hbel.size)⟩
        case measure => simp [intOf]; omega
    · have HR : Hid (nmd names (f, v) = false) := by
        have := hf.out
        rwa [List.take_of_length_le (by omega)] at this
      clear hf
      go_wp2_with fail
      go_ret
      exact ⟨by rw [HR.out]; rfl, hbel⟩

end Go.Proofs.YtjkfdjolhmgemaaGreatDoor
end

/-
  Contract of slices.Insert of one field into a row of the call's own.
-/
section
namespace Go.Proofs.YtjkfdjolhmgemaaGreatDoor
open Go.RowKit

end Go.Proofs.YtjkfdjolhmgemaaGreatDoor
end

/-
  Contracts of the reference's Least, has, least, greatest (layer 13).
-/
section
namespace Go.Proofs.YtjkfdjolhmgemaaGreatDoor
open Go.RowKit

/-! ### Names in a slice -/
def hsN (N : List (List UInt8)) (nm : ByteArray) : Bool := N.any fun x => x == nm.data.toList
/-! ### The least and the greatest number of a name -/
end Go.Proofs.YtjkfdjolhmgemaaGreatDoor
end

/-
  Contracts of the reference's before, single (layer 15).
-/
section
namespace Go.Proofs.YtjkfdjolhmgemaaGreatDoor
open Go.RowKit
set_option linter.unusedSimpArgs false

end Go.Proofs.YtjkfdjolhmgemaaGreatDoor
end

/-
  Plain functions of layer 13's program, without the program: a table of directives, row by row.
-/
section
namespace Go.Proofs.YtjkfdjolhmgemaaGreatDoor
open Go.RowKit

/-- The table's names. -/
def rowN : Nat → ByteArray
  | 0 => nsS | 1 => ncS | 2 => pvS | 3 => puS | 4 => mrS | 5 => xrS | 6 => oiS | 7 => maS | 8 => smS | _ => mfS
/-- A row's effect. -/
def effC : Nat → Ctl → List UInt8 → Ctl
  | 0, c, _ => { c with ns := true }
  | 1, c, _ => { c with nc := true }
  | 2, c, _ => { c with pv := true }
  | 3, c, _ => { c with pu := true }
  | 4, c, _ => { c with mc := true }
  | 5, c, _ => { c with mc := true }
  | 6, c, _ => { c with oi := true }
  | 7, c, v => { c with ma := leaN c.ma (secN v) }
  | 8, c, v => { c with sh := leaN c.sh (secN v) }
  | _, c, v => { c with mf := max c.mf (if secB v then secN v else 2147483648) }
/-- A row at a directive. -/
def rowC (i : Nat) (d : Dv) (c : Ctl) : Ctl := if d.1 = (rowN i).data.toList then effC i c d.2 else c
/-- The first rows. -/
def rowsC (d : Dv) (c : Ctl) : Nat → Ctl
  | 0 => c
  | k + 1 => rowC k d (rowsC d c k)
/-- The whole table. -/
def stepC (c : Ctl) (d : Dv) : Ctl := rowsC d c 10
def readC (c : Ctl) (e : List UInt8) : Ctl := match dvO e with | some d => stepC c d | none => c

/-- The numbers are a word's. -/
def CtB (c : Ctl) : Prop := (-9223372036854775808 ≤ c.ma ∧ c.ma ≤ 9223372036854775807) ∧ (-9223372036854775808 ≤ c.sh ∧ c.sh ≤ 9223372036854775807) ∧ (-9223372036854775808 ≤ c.mf ∧ c.mf ≤ 9223372036854775807)

def ct0 : Ctl := ⟨false, false, false, false, false, false, -1, -1, -1⟩
end Go.Proofs.YtjkfdjolhmgemaaGreatDoor
end

/-
  Contracts of package control's Least and seconds.
-/
section
namespace Go.Proofs.YtjkfdjolhmgemaaGreatDoor
open Go.RowKit

end Go.Proofs.YtjkfdjolhmgemaaGreatDoor
end
