/-
  Texts that the laws of this seat lean on, one behind the other.
-/
import Derived.Test.YtnembpklidcgoaaGreatDoorMrhT
import Derived.Test.YtnembpklidcgoaaGreatDoorMrhF
import Derived.Test.YtnembpklidcgoaaGreatDoorMrhE
import Derived.Deep.RegionHeld3
import Derived.Deep.AppendLies
import Derived.Test.YtnembpklidcgoaaGreatDoorMrhAB
import Derived.Test.YtnembpklidcgoaaGreatDoorMrhM
import Derived.Test.YtnembpklidcgoaaGreatDoorMrhR
import Derived.Test.YtnembpklidcgoaaGreatDoorMrhAA
import Derived.Shelf.Abstract
import Derived.Laws.EntriesVeiled
import Derived.Test.YtnembpklidcgoaaGreatDoorMrhO
set_option linter.unusedSimpArgs false
set_option linter.unusedVariables false
/-
  Contracts of the effects in package control's table of directives: each writes one cell behind the pointer.
-/
section
namespace Go.Proofs.YtnembpklidcgoaaGreatDoor
open Go.RowKit

theorem rd_set {w : World} {R t k : Nat} {cs : Array Value} (h : w.heap[R]? = some (.cells cs t (0, 0))) (u : Value) : (w.setCell ⟨R, k, none⟩ u).heap[R]? = some (.cells (cs.setIfInBounds k u) t (0, 0)) := by
  simp [World.setCell, Array.getElem?_modify, h]
theorem ctRd_at {w : World} {R t : Nat} {cs : Array Value} (h : w.heap[R]? = some (.cells cs t (0, 0))) (k : Nat) (u : Value) (hk : cs[k]? = some u) : w.cell? ⟨R, k, none⟩ = some u ∧ w.frozen? ⟨R, k, none⟩ = false :=
  ⟨(cell_of_row _ _ _ _ _ _ h).trans hk, by simp [World.frozen?, h]⟩

set_option maxHeartbeats 4000000 in
set_option maxRecDepth 100000 in
theorem eff1_any (R : Nat) (A : Option Addr) (n cp : Nat) (ns nc pv pu mc oi : Bool) (ma sh mf : Int) (v : ByteArray) (w : World)
    (h : w.heap[R]? = some (.cells #[.slice A n cp, .bool ns, .bool nc, .bool pv, .bool pu, .bool mc, .bool oi, .int .i64 ma, .int .i64 sh, .int .i64 mf] 73 (0, 0))) :
    Calls Tryz.prog 103 #[.pointer (some ⟨R, 1, none⟩), .string v] w fun e w' => e = .returned (.tuple #[]) ∧ ButB R w w' ∧ w'.heap[R]? = some (.cells #[.slice A n cp, .bool true, .bool nc, .bool pv, .bool pu, .bool mc, .bool oi, .int .i64 ma, .int .i64 sh, .int .i64 mf] 73 (0, 0)) := by
  have HG := Lib.hid h
  obtain ⟨hc, hf⟩ := ctRd_at h 1 _ rfl
  clear h
  go_enter Tryz.func103, Tryz.ntmps103
  go_wp2_with fail
  go_end0
  exact ⟨rfl, (ButB.refl _ _).setCell _ _, rd_set HG.out _⟩

set_option maxHeartbeats 4000000 in
set_option maxRecDepth 100000 in
theorem eff2_any (R : Nat) (A : Option Addr) (n cp : Nat) (ns nc pv pu mc oi : Bool) (ma sh mf : Int) (v : ByteArray) (w : World)
    (h : w.heap[R]? = some (.cells #[.slice A n cp, .bool ns, .bool nc, .bool pv, .bool pu, .bool mc, .bool oi, .int .i64 ma, .int .i64 sh, .int .i64 mf] 73 (0, 0))) :
    Calls Tryz.prog 104 #[.pointer (some ⟨R, 1, none⟩), .string v] w fun e w' => e = .returned (.tuple #[]) ∧ ButB R w w' ∧ w'.heap[R]? = some (.cells #[.slice A n cp, .bool ns, .bool true, .bool pv, .bool pu, .bool mc, .bool oi, .int .i64 ma, .int .i64 sh, .int .i64 mf] 73 (0, 0)) := by
  have HG := Lib.hid h
  obtain ⟨hc, hf⟩ := ctRd_at h 2 _ rfl
  clear h
  go_enter Tryz.func104, Tryz.ntmps104
  go_wp2_with fail
  go_end0
  exact ⟨rfl, (ButB.refl _ _).setCell _ _, rd_set HG.out _⟩

set_option maxHeartbeats 4000000 in
set_option maxRecDepth 100000 in
theorem eff3_any (R : Nat) (A : Option Addr) (n cp : Nat) (ns nc pv pu mc oi : Bool) (ma sh mf : Int) (v : ByteArray) (w : World)
    (h : w.heap[R]? = some (.cells #[.slice A n cp, .bool ns, .bool nc, .bool pv, .bool pu, .bool mc, .bool oi, .int .i64 ma, .int .i64 sh, .int .i64 mf] 73 (0, 0))) :
    Calls Tryz.prog 105 #[.pointer (some ⟨R, 1, none⟩), .string v] w fun e w' => e = .returned (.tuple #[]) ∧ ButB R w w' ∧ w'.heap[R]? = some (.cells #[.slice A n cp, .bool ns, .bool nc, .bool true, .bool pu, .bool mc, .bool oi, .int .i64 ma, .int .i64 sh, .int .i64 mf] 73 (0, 0)) := by
  have HG := Lib.hid h
  obtain ⟨hc, hf⟩ := ctRd_at h 3 _ rfl
  clear h
  go_enter Tryz.func105, Tryz.ntmps105
  go_wp2_with fail
  go_end0
  exact ⟨rfl, (ButB.refl _ _).setCell _ _, rd_set HG.out _⟩

set_option maxHeartbeats 4000000 in
set_option maxRecDepth 100000 in
theorem eff4_any (R : Nat) (A : Option Addr) (n cp : Nat) (ns nc pv pu mc oi : Bool) (ma sh mf : Int) (v : ByteArray) (w : World)
    (h : w.heap[R]? = some (.cells #[.slice A n cp, .bool ns, .bool nc, .bool pv, .bool pu, .bool mc, .bool oi, .int .i64 ma, .int .i64 sh, .int .i64 mf] 73 (0, 0))) :
    Calls Tryz.prog 106 #[.pointer (some ⟨R, 1, none⟩), .string v] w fun e w' => e = .returned (.tuple #[]) ∧ ButB R w w' ∧ w'.heap[R]? = some (.cells #[.slice A n cp, .bool ns, .bool nc, .bool pv, .bool true, .bool mc, .bool oi, .int .i64 ma, .int .i64 sh, .int .i64 mf] 73 (0, 0)) := by
  have HG := Lib.hid h
  obtain ⟨hc, hf⟩ := ctRd_at h 4 _ rfl
  clear h
  go_enter Tryz.func106, Tryz.ntmps106
  go_wp2_with fail
  go_end0
  exact ⟨rfl, (ButB.refl _ _).setCell _ _, rd_set HG.out _⟩

set_option maxHeartbeats 4000000 in
set_option maxRecDepth 100000 in
theorem eff5_any (R : Nat) (A : Option Addr) (n cp : Nat) (ns nc pv pu mc oi : Bool) (ma sh mf : Int) (v : ByteArray) (w : World)
    (h : w.heap[R]? = some (.cells #[.slice A n cp, .bool ns, .bool nc, .bool pv, .bool pu, .bool mc, .bool oi, .int .i64 ma, .int .i64 sh, .int .i64 mf] 73 (0, 0))) :
    Calls Tryz.prog 107 #[.pointer (some ⟨R, 1, none⟩), .string v] w fun e w' => e = .returned (.tuple #[]) ∧ ButB R w w' ∧ w'.heap[R]? = some (.cells #[.slice A n cp, .bool ns, .bool nc, .bool pv, .bool pu, .bool true, .bool oi, .int .i64 ma, .int .i64 sh, .int .i64 mf] 73 (0, 0)) := by
  have HG := Lib.hid h
  obtain ⟨hc, hf⟩ := ctRd_at h 5 _ rfl
  clear h
  go_enter Tryz.func107, Tryz.ntmps107
  go_wp2_with fail
  go_end0
  exact ⟨rfl, (ButB.refl _ _).setCell _ _, rd_set HG.out _⟩

set_option maxHeartbeats 4000000 in
set_option maxRecDepth 100000 in
theorem eff6_any (R : Nat) (A : Option Addr) (n cp : Nat) (ns nc pv pu mc oi : Bool) (ma sh mf : Int) (v : ByteArray) (w : World)
    (h : w.heap[R]? = some (.cells #[.slice A n cp, .bool ns, .bool nc, .bool pv, .bool pu, .bool mc, .bool oi, .int .i64 ma, .int .i64 sh, .int .i64 mf] 73 (0, 0))) :
    Calls Tryz.prog 108 #[.pointer (some ⟨R, 1, none⟩), .string v] w fun e w' => e = .returned (.tuple #[]) ∧ ButB R w w' ∧ w'.heap[R]? = some (.cells #[.slice A n cp, .bool ns, .bool nc, .bool pv, .bool pu, .bool true, .bool oi, .int .i64 ma, .int .i64 sh, .int .i64 mf] 73 (0, 0)) := by
  have HG := Lib.hid h
  obtain ⟨hc, hf⟩ := ctRd_at h 5 _ rfl
  clear h
  go_enter Tryz.func108, Tryz.ntmps108
  go_wp2_with fail
  go_end0
  exact ⟨rfl, (ButB.refl _ _).setCell _ _, rd_set HG.out _⟩

set_option maxHeartbeats 4000000 in
set_option maxRecDepth 100000 in
theorem eff7_any (R : Nat) (A : Option Addr) (n cp : Nat) (ns nc pv pu mc oi : Bool) (ma sh mf : Int) (v : ByteArray) (w : World)
    (h : w.heap[R]? = some (.cells #[.slice A n cp, .bool ns, .bool nc, .bool pv, .bool pu, .bool mc, .bool oi, .int .i64 ma, .int .i64 sh, .int .i64 mf] 73 (0, 0))) :
    Calls Tryz.prog 109 #[.pointer (some ⟨R, 1, none⟩), .string v] w fun e w' => e = .returned (.tuple #[]) ∧ ButB R w w' ∧ w'.heap[R]? = some (.cells #[.slice A n cp, .bool ns, .bool nc, .bool pv, .bool pu, .bool mc, .bool true, .int .i64 ma, .int .i64 sh, .int .i64 mf] 73 (0, 0)) := by
  have HG := Lib.hid h
  obtain ⟨hc, hf⟩ := ctRd_at h 6 _ rfl
  clear h
  go_enter Tryz.func109, Tryz.ntmps109
  go_wp2_with fail
  go_end0
  exact ⟨rfl, (ButB.refl _ _).setCell _ _, rd_set HG.out _⟩

set_option maxHeartbeats 4000000 in
set_option maxRecDepth 100000 in
theorem eff8_any (R : Nat) (A : Option Addr) (n cp : Nat) (ns nc pv pu mc oi : Bool) (ma sh mf : Int) (v : ByteArray) (w : World)
    (h : w.heap[R]? = some (.cells #[.slice A n cp, .bool ns, .bool nc, .bool pv, .bool pu, .bool mc, .bool oi, .int .i64 ma, .int .i64 sh, .int .i64 mf] 73 (0, 0))) :
    Calls Tryz.prog 110 #[.pointer (some ⟨R, 1, none⟩), .string v] w fun e w' => e = .returned (.tuple #[]) ∧ ButB R w w' ∧ w'.heap[R]? = some (.cells #[.slice A n cp, .bool ns, .bool nc, .bool pv, .bool pu, .bool mc, .bool oi, .int .i64 (leaN ma (secN v.data.toList)), .int .i64 sh, .int .i64 mf] 73 (0, 0)) := by
  have HG := Lib.hid h
  obtain ⟨hc, hf⟩ := ctRd_at h 7 _ rfl
  clear h
  have CS := Lib.hid (fun W => secs_any v 0 W)
  have HS := Lib.hid (sec_or v.data.toList)
  rw [HS.out] at CS
  clear HS
  generalize secN v.data.toList = q at *
  have CL := Lib.hid (fun W => lst_any ma q W)
  generalize leaN ma q = r at *
  go_enter Tryz.func110, Tryz.ntmps110
  go_region_law (first
    | (go_simp; go_at_call 112; refine (CS.out _).mono ?_; rintro e w1 ⟨rfl, hb1⟩; have HB := Lib.hid hb1; have hc1 := cell_kept hb1 hc; have hf1 := (hb1.frozen (World.block_lt_of_cell? w _ hc)).trans hf; have HG1 := Lib.hid (zero_still hb1 HG.out); clear hb1)
    | (go_simp; go_at_call 111; refine (CL.out _).mono ?_; rintro e w2 ⟨rfl, rfl⟩))
  all_goals
    go_wp2_with fail
    go_end0
    exact ⟨rfl, (ButB.of_below (show Below w.heap.size w w1 from (Below.refl w.heap.size w).drew.trans HB.out)).setCell _ _, rd_set HG1.out _⟩

set_option maxHeartbeats 4000000 in
set_option maxRecDepth 100000 in
theorem eff9_any (R : Nat) (A : Option Addr) (n cp : Nat) (ns nc pv pu mc oi : Bool) (ma sh mf : Int) (v : ByteArray) (w : World)
    (h : w.heap[R]? = some (.cells #[.slice A n cp, .bool ns, .bool nc, .bool pv, .bool pu, .bool mc, .bool oi, .int .i64 ma, .int .i64 sh, .int .i64 mf] 73 (0, 0))) :
    Calls Tryz.prog 113 #[.pointer (some ⟨R, 1, none⟩), .string v] w fun e w' => e = .returned (.tuple #[]) ∧ ButB R w w' ∧ w'.heap[R]? = some (.cells #[.slice A n cp, .bool ns, .bool nc, .bool pv, .bool pu, .bool mc, .bool oi, .int .i64 ma, .int .i64 (leaN sh (secN v.data.toList)), .int .i64 mf] 73 (0, 0)) := by
  have HG := Lib.hid h
  obtain ⟨hc, hf⟩ := ctRd_at h 8 _ rfl
  clear h
  have CS := Lib.hid (fun W => secs_any v 0 W)
  have HS := Lib.hid (sec_or v.data.toList)
  rw [HS.out] at CS
  clear HS
  generalize secN v.data.toList = q at *
  have CL := Lib.hid (fun W => lst_any sh q W)
  generalize leaN sh q = r at *
  go_enter Tryz.func113, Tryz.ntmps113
  go_region_law (first
    | (go_simp; go_at_call 112; refine (CS.out _).mono ?_; rintro e w1 ⟨rfl, hb1⟩; have HB := Lib.hid hb1; have hc1 := cell_kept hb1 hc; have hf1 := (hb1.frozen (World.block_lt_of_cell? w _ hc)).trans hf; have HG1 := Lib.hid (zero_still hb1 HG.out); clear hb1)
    | (go_simp; go_at_call 111; refine (CL.out _).mono ?_; rintro e w2 ⟨rfl, rfl⟩))
  all_goals
    go_wp2_with fail
    go_end0
    exact ⟨rfl, (ButB.of_below (show Below w.heap.size w w1 from (Below.refl w.heap.size w).drew.trans HB.out)).setCell _ _, rd_set HG1.out _⟩

set_option maxHeartbeats 4000000 in
set_option maxRecDepth 100000 in
theorem eff10_any (R : Nat) (A : Option Addr) (n cp : Nat) (ns nc pv pu mc oi : Bool) (ma sh mf : Int) (v : ByteArray) (w : World)
    (h : w.heap[R]? = some (.cells #[.slice A n cp, .bool ns, .bool nc, .bool pv, .bool pu, .bool mc, .bool oi, .int .i64 ma, .int .i64 sh, .int .i64 mf] 73 (0, 0))) :
    Calls Tryz.prog 114 #[.pointer (some ⟨R, 1, none⟩), .string v] w fun e w' => e = .returned (.tuple #[]) ∧ ButB R w w' ∧ w'.heap[R]? = some (.cells #[.slice A n cp, .bool ns, .bool nc, .bool pv, .bool pu, .bool mc, .bool oi, .int .i64 ma, .int .i64 sh, .int .i64 (max mf (if secB v.data.toList = true then secN v.data.toList else 2147483648))] 73 (0, 0)) := by
  have HG := Lib.hid h
  obtain ⟨hc, hf⟩ := ctRd_at h 9 _ rfl
  clear h
  have CS := Lib.hid (fun W => secs_any v 2147483648 W)
  generalize (if secB v.data.toList = true then secN v.data.toList else 2147483648) = q at *
  go_enter Tryz.func114, Tryz.ntmps114
  go_region_law ((go_simp; go_at_call 112; refine (CS.out _).mono ?_; rintro e w1 ⟨rfl, hb1⟩; have HB := Lib.hid hb1; have hc1 := cell_kept hb1 hc; have hf1 := (hb1.frozen (World.block_lt_of_cell? w _ hc)).trans hf; have HG1 := Lib.hid (zero_still hb1 HG.out); clear hb1))
  all_goals
    go_wp2_with fail
    go_end0
    exact ⟨rfl, (ButB.of_below (show Below w.heap.size w w1 from (Below.refl w.heap.size w).drew.trans HB.out)).setCell _ _, rd_set HG1.out _⟩

end Go.Proofs.YtnembpklidcgoaaGreatDoor
end

/-
  Contract of the reference's Print (layer 13).
-/
section
namespace Go.Proofs.YtnembpklidcgoaaGreatDoor
open Go.RowKit

/-- The cells of a block begin with these values. -/
def SlV (w : World) (g : Nat) (L : List Value) : Prop := ∀ (j : Nat) (x : Value), L[j]? = some x → w.cell? ⟨g, j, none⟩ = some x
theorem SlV.new (w : World) (t : TypeId) {L : List Value} {cs : Array Value} (h : ∀ (j : Nat) (x : Value), L[j]? = some x → cs[j]? = some x) : SlV (w.alloc (.cells cs t)) w.heap.size L := fun j x hx => by
  rw [cell_of_row _ _ _ _ _ _ (heap_alloc_new w _)]
  exact h j x hx
theorem SlV.alloc {w : World} {g : Nat} {L : List Value} (h : SlV w g L) (o : Obj) : SlV (w.alloc o) g L := fun j x hx => Lib.cell?_alloc_some o (h j x hx)
theorem SlV.below {w w' : World} {g : Nat} {L : List Value} (h : SlV w g L) (hb : Below w.heap.size w w') : SlV w' g L := fun j x hx => cell_kept hb (h j x hx)
theorem SlV.grw {w w' : World} {g : Nat} {L : List Value} {v v' : Value} (h : SlV w g L) (hne : v.ownBlock ≠ some g) (hg : Grw w w' v v') : SlV w' g L := fun j x hx => hg.kept _ _ (h j x hx) (fun e => hne e.symm)
def ctF (c : Ctl) : List (Bool × List UInt8) := [(c.ns, nsS.data.toList), (c.nc, ncS.data.toList), (c.pv, pvS.data.toList), (c.pu, puS.data.toList), (c.mc, mrS.data.toList), (c.oi, oiS.data.toList)]
def ctM (c : Ctl) : List (Int × List UInt8) := [(c.ma, maE.data.toList), (c.sh, smE.data.toList), (c.mf, mfE.data.toList)]
def flS (p : Bool × List UInt8) : List (List UInt8) := if p.1 then [p.2] else []
def nmS (p : Int × List UInt8) : List (List UInt8) := if 0 ≤ p.1 then [p.2 ++ plainL p.1] else []
end Go.Proofs.YtnembpklidcgoaaGreatDoor
end

/-
  Contracts of package control's reader: a table of directives with their effects, and what an element does to what was read.
-/
section
namespace Go.Proofs.YtnembpklidcgoaaGreatDoor
open Go.RowKit

/-- The cells of a reader. -/
def rdC (D : Nat) (c : Ctl) : Array Value := #[.slice (some ⟨D, 0, none⟩) 10 10, .bool c.ns, .bool c.nc, .bool c.pv, .bool c.pu, .bool c.mc, .bool c.oi, .int .i64 c.ma, .int .i64 c.sh, .int .i64 c.mf]
/-- The table's cells. -/
def tabC : List Value := [.string nsS, .func (.func 103) #[] #[], .string ncS, .func (.func 104) #[] #[], .string pvS, .func (.func 105) #[] #[], .string puS, .func (.func 106) #[] #[], .string mrS, .func (.func 107) #[] #[], .string xrS, .func (.func 108) #[] #[], .string oiS, .func (.func 109) #[] #[], .string maS, .func (.func 110) #[] #[], .string smS, .func (.func 113) #[] #[], .string mfS, .func (.func 114) #[] #[]]

/-- An effect. -/
def EffOk (k g : Nat) : Prop := ∀ (R D : Nat) (c : Ctl) (v : ByteArray) (w : World), w.heap[R]? = some (.cells (rdC D c) 73 (0, 0)) →
  Calls Tryz.prog g #[.pointer (some ⟨R, 1, none⟩), .string v] w fun e w' => e = .returned (.tuple #[]) ∧ ButB R w w' ∧ w'.heap[R]? = some (.cells (rdC D (effC k c v.data.toList)) 73 (0, 0))
theorem tab_row (k : Nat) (hk : k < 10) : ∃ g : Nat, tabC[k * 2]? = some (.string (rowN k)) ∧ tabC[k * 2 + 1]? = some (.func (.func g) #[] #[]) ∧ (∀ args W, (callFunc g args).run Tryz.prog W = .ok (.enter g args) W) ∧ EffOk k g := by
  rcases k with _ | _ | _ | _ | _ | _ | _ | _ | _ | _ | k
  · exact ⟨103, rfl, rfl, Go.Proofs.enters_of Tryz.func103 (by kernel_rfl) rfl, fun R D c v w h => eff1_any R _ _ _ _ _ _ _ _ _ _ _ _ v w h⟩
  · exact ⟨104, rfl, rfl, Go.Proofs.enters_of Tryz.func104 (by kernel_rfl) rfl, fun R D c v w h => eff2_any R _ _ _ _ _ _ _ _ _ _ _ _ v w h⟩
  · exact ⟨105, rfl, rfl, Go.Proofs.enters_of Tryz.func105 (by kernel_rfl) rfl, fun R D c v w h => eff3_any R _ _ _ _ _ _ _ _ _ _ _ _ v w h⟩
  · exact ⟨106, rfl, rfl, Go.Proofs.enters_of Tryz.func106 (by kernel_rfl) rfl, fun R D c v w h => eff4_any R _ _ _ _ _ _ _ _ _ _ _ _ v w h⟩
  · exact ⟨107, rfl, rfl, Go.Proofs.enters_of Tryz.func107 (by kernel_rfl) rfl, fun R D c v w h => eff5_any R _ _ _ _ _ _ _ _ _ _ _ _ v w h⟩
  · exact ⟨108, rfl, rfl, Go.Proofs.enters_of Tryz.func108 (by kernel_rfl) rfl, fun R D c v w h => eff6_any R _ _ _ _ _ _ _ _ _ _ _ _ v w h⟩
  · exact ⟨109, rfl, rfl, Go.Proofs.enters_of Tryz.func109 (by kernel_rfl) rfl, fun R D c v w h => eff7_any R _ _ _ _ _ _ _ _ _ _ _ _ v w h⟩
  · exact ⟨110, rfl, rfl, Go.Proofs.enters_of Tryz.func110 (by kernel_rfl) rfl, fun R D c v w h => eff8_any R _ _ _ _ _ _ _ _ _ _ _ _ v w h⟩
  · exact ⟨113, rfl, rfl, Go.Proofs.enters_of Tryz.func113 (by kernel_rfl) rfl, fun R D c v w h => eff9_any R _ _ _ _ _ _ _ _ _ _ _ _ v w h⟩
  · exact ⟨114, rfl, rfl, Go.Proofs.enters_of Tryz.func114 (by kernel_rfl) rfl, fun R D c v w h => eff10_any R _ _ _ _ _ _ _ _ _ _ _ _ v w h⟩
  · omega

/-- Block R is a reader, with the table in block D. -/
structure CtRdr (w : World) (R D : Nat) (c : Ctl) : Prop where
  row : w.heap[R]? = some (.cells (rdC D c) 73 (0, 0))
  tab : SlV w D tabC
  ne : D ≠ R
section
variable {w w' : World} {R D : Nat} {c : Ctl}
theorem CtRdr.lt (h : CtRdr w R D c) : R < w.heap.size := (Array.getElem?_eq_some_iff.1 h.row).1
theorem SlV.but {g : Nat} {L : List Value} (h : SlV w g L) (hne : g ≠ R) (hb : ButB R w w') : SlV w' g L := fun j x hx => by
  have h1 := h j x hx
  exact (World.cell?_of_block (w := w) (hb.block _ (World.block_lt_of_cell? w _ h1) hne)).trans h1
theorem CtRdr.but (h : CtRdr w R D c) (hb : ButB R w w') {c' : Ctl} (hr : w'.heap[R]? = some (.cells (rdC D c') 73 (0, 0))) : CtRdr w' R D c' := ⟨hr, h.tab.but h.ne hb, h.ne⟩
theorem CtRdr.below (h : CtRdr w R D c) (hb : Below w.heap.size w w') : CtRdr w' R D c := ⟨zero_still hb h.row, h.tab.below hb, h.ne⟩
theorem rd_cell (h : CtRdr w R D c) : w.cell? ⟨R, 0, none⟩ = some (.slice (some ⟨D, 0, none⟩) 10 10) := (ctRd_at h.row 0 _ rfl).1
/-- Strings lie elsewhere. -/
theorem SlS.but {A : Option Addr} {n d : Nat} {L : List (List UInt8)} (h : SlS w A n d L) (hh : Head w A) (hr : CtRdr w R D c) (hb : ButB R w w') : SlS w' A n d L := by
  refine ⟨h.len, h.cap, h.cm, h.nil, fun hn => ?_⟩
  obtain ⟨ad, e, hc⟩ := h.at_ hn
  refine ⟨ad, e, fun j x hx => ?_⟩
  have h1 := hc j x hx
  have hne : ad.block ≠ R := by
    intro hR
    rcases hh with h0 | ⟨g, _, h0⟩
    · rw [h0] at e; cases e
    · rw [h0] at e
      cases e
      simp only at hR
      subst hR
      have hl := h.len
      have h2 := hc 0 L[0] (List.getElem?_eq_getElem (by omega))
      rw [addr_add, rd_cell hr] at h2
      cases h2
  exact (World.cell?_of_block (w := w) (hb.block _ (World.block_lt_of_cell? w _ h1) (by rw [add_block]; exact hne))).trans h1
theorem Head.but {A : Option Addr} (h : Head w A) (hb : ButB R w w') : Head w' A := by
  rcases h with h | ⟨g, hg, h⟩
  · exact .inl h
  · exact .inr ⟨g, Nat.lt_of_lt_of_le hg hb.size, h⟩
end

theorem rowsC_succ (d : Dv) (c : Ctl) (k : Nat) : rowsC d c (k + 1) = rowC k d (rowsC d c k) := rfl

set_option maxHeartbeats 8000000 in
set_option maxRecDepth 100000 in
theorem ctRead_any (R D : Nat) (c : Ctl) (e : ByteArray) (w : World) (h : CtRdr w R D c) (hz : e.size ≤ 100000000) :
    Calls Tryz.prog 66 #[.pointer (some ⟨R, 0, none⟩), .string e] w fun x w' => x = .returned (.tuple #[]) ∧ CtRdr w' R D (readC c e.data.toList) ∧ ButB R w w' := by
  have CP := Lib.hid (param_any e w hz)
  have hrd : readC c e.data.toList = if parE e = 0 then stepC c ((parN e).data.toList, (parV e).data.toList) else c := by
    unfold readC dvO
    rw [mkS_self]
    by_cases h0 : parE e = 0
    · rw [if_pos h0, if_pos h0]
    · rw [if_neg h0, if_neg h0]
  rw [hrd]
  clear hrd hz
  generalize parE e = pe at *
  generalize parN e = pn at *
  generalize parV e = pv at *
  generalize parH e = ph at *
  have H0 := Lib.hid h
  clear h
  by_cases hpe : pe = 0
  · rw [if_pos hpe]
    subst hpe
    obtain ⟨Z, hZ⟩ : ∃ Z, Z = stepC c (pn.data.toList, pv.data.toList) := ⟨_, rfl⟩
    rw [← hZ]
    have HZ := Lib.hid hZ
    clear hZ
    go_enter Tryz.func66, Tryz.ntmps66
    go_wp2_with fail
    refine CP.out.mono ?_
    rintro x w1 ⟨rfl, hb1⟩
    have H1 := Lib.hid (H0.out.below hb1)
    have HB1 := Lib.hid hb1
    have hcs := rd_cell H1.out
    clear hb1 CP
    go_wp2_with fail
    go_loopw [24] (fun i wr => ∃ k : Nat, k ≤ 10 ∧ i = .int .i64 (k : Int) ∧ Hid (CtRdr wr R D (rowsC (pn.data.toList, pv.data.toList) c k)) ∧ ButB R w1 wr) (fun i _ => 10 - (intOf i).toNat)
    case atStart => exact ⟨0, Nat.zero_le _, rfl, H1.out, ButB.refl _ _⟩
    case round =>
      clear H1 hcs
      obtain ⟨k, hk, rfl, HR, hbut⟩ := hrel
      by_cases hlt : k < 10
      · obtain ⟨g, hc0, hc1, eg, heff⟩ := tab_row k hlt
        have hs := rowsC_succ (pn.data.toList, pv.data.toList) c k
        generalize rowsC (pn.data.toList, pv.data.toList) c k = ck at *
        unfold rowC at hs
        simp only at hs
        generalize rowN k = nm at *
        have hq0 := HR.out.tab _ _ hc0
        have hq1 := HR.out.tab _ _ hc1
        clear hc0 hc1
        have hi0 : (0 : Int) ≤ (k : Int) := by omega
        have hi1 : (k : Int) < 10 := by omega
        by_cases hnm : pn.data.toList = nm.data.toList
        · rw [if_pos hnm] at hs
          have HS := Lib.hid hs
          have hnm' : (nm.toList == pn.toList) = true := by rw [Lib.toList_data, Lib.toList_data]; exact beq_iff_eq.2 hnm.symm
          have HC := Lib.hid (heff R D ck pv ((wr.alloc (.cells #[.string nm, .func (.func g) #[] #[]] 107)).drew) (zero_more HR.out.row))
          have HB2 : Hid (ButB R wr ((wr.alloc (.cells #[.string nm, .func (.func g) #[] #[]] 107)).drew)) := ButB.of_below (((Below.refl _ _).alloc (Nat.le_refl _) _).drew)
          clear hs hnm heff
          go_wp2_with fail
          go_region_law ((go_simp; refine (HC.out).mono ?_; rintro x w3 ⟨rfl, hb3, hr3⟩; have HB3 := Lib.hid hb3; have HR3 := Lib.hid hr3; clear hb3 hr3))
          all_goals
            go_wp2_with fail
            go_roundw
            case rel => exact ⟨k + 1, by omega, by go_num, by show CtRdr _ _ _ _; rw [HS.out]; exact HR.out.but (HB2.out.trans HB3.out) HR3.out, hbut.trans (HB2.out.trans HB3.out)⟩
            case measure => simp [intOf]; omega
        · rw [if_neg hnm] at hs
          have HS := Lib.hid hs
          have hnm' : (nm.toList == pn.toList) = false := by rw [Lib.toList_data, Lib.toList_data]; exact beq_eq_false_iff_ne.2 (fun h => hnm h.symm)
          clear hs hnm heff
          go_wp2_with fail
          go_roundw
          case rel => exact ⟨k + 1, by omega, by go_num, by show CtRdr _ _ _ _; rw [HS.out]; exact HR.out.below ((Below.refl _ _).alloc (Nat.le_refl _) _), hbut.trans (ButB.of_below ((Below.refl _ _).alloc (Nat.le_refl _) _))⟩
          case measure => simp [intOf]; omega
      · obtain rfl : k = 10 := by omega
        go_wp2_with fail
        go_end0
        exact ⟨rfl, by rw [HZ.out]; exact HR.out, (ButB.of_below HB1.out).trans hbut⟩
  · rw [if_neg hpe]
    go_enter Tryz.func66, Tryz.ntmps66
    go_wp2_with fail
    refine CP.out.mono ?_
    rintro x w1 ⟨rfl, hb1⟩
    go_wp2_with fail
    try simp only [Exit.inBlock, Exit.then]
    refine bodyPost_ret (results_none rfl _ _ _) rfl ?_
    exact ⟨rfl, H0.out.below hb1, ButB.of_below hb1⟩

end Go.Proofs.YtnembpklidcgoaaGreatDoor
end

/-
  Contracts of package control's directives and visit.
-/
section
namespace Go.Proofs.YtnembpklidcgoaaGreatDoor
open Go.RowKit

set_option maxHeartbeats 4000000 in
set_option maxRecDepth 100000 in
theorem dirs_any (w : World) :
    Calls Tryz.prog 64 #[] w fun e w' => ∃ D, w.heap.size ≤ D ∧ D < w'.heap.size ∧ e = .returned (.slice (some ⟨D, 0, none⟩) 10 10) ∧ SlV w' D tabC ∧ Below w.heap.size w w' := by
  have HT : Hid (SlV (w.alloc (.cells tabC.toArray 107)) w.heap.size tabC) := SlV.new w 107 (cs := tabC.toArray) (fun j x hx => by simpa using hx)
  have HB : Hid (Below w.heap.size w (w.alloc (.cells tabC.toArray 107))) := (Below.refl _ _).alloc (Nat.le_refl _) _
  unfold tabC nsS ncS pvS puS mrS xrS oiS maS smS mfS at HT HB ⊢
  simp only [List.toArray] at HT HB
  go_enter Tryz.func64, Tryz.ntmps64
  go_wp2_with fail
  go_ret
  exact ⟨w.heap.size, Nat.le_refl _, by simp, rfl, HT.out, HB.out⟩

theorem enters_read : ∀ args W, (callFunc 66 args).run Tryz.prog W = .ok (.enter 66 args) W := Go.Proofs.enters_of Tryz.func66 (by kernel_rfl) rfl

theorem fold_dvs_snoc (V : List (List UInt8)) (k : Nat) (h : k < V.length) (c : Ctl) : (dvs (V.take (k + 1))).foldl stepC c = (splO V[k]).foldl readC ((dvs (V.take k)).foldl stepC c) := by
  rw [dvs_snoc V k h, List.foldl_append, fold_readC]
  rfl
theorem fold_take (E : List (List UInt8)) (j : Nat) (h : j < E.length) (c : Ctl) : (E.take (j + 1)).foldl readC c = readC ((E.take j).foldl readC c) E[j] := by
  rw [List.take_succ_eq_append_getElem h, List.foldl_append]
  rfl

set_option maxHeartbeats 16000000 in
set_option maxRecDepth 100000 in
theorem visit_any (A : Option Addr) (n d : Nat) (V : List (List UInt8)) (R D : Nat) (c : Ctl) (w : World) (hS : SlS w A n d V) (hh : Head w A) (h : CtRdr w R D c) (hn : n ≤ 1000) (hz : ∀ v ∈ V, v.length ≤ 10000) :
    Calls Tryz.prog 65 #[.slice A n d, .func (.func 66) #[.pointer (some ⟨R, 0, none⟩)] #[]] w fun e w' => e = .returned (.bool (fnV V)) ∧ CtRdr w' R D ((dvs V).foldl stepC c) ∧ ButB R w w' := by
  have hlen := hS.len
  subst hlen
  have HS0 := Lib.hid hS
  have HH0 := Lib.hid hh
  have H0 := Lib.hid h
  have eg := enters_read
  clear hS hh h
  go_enter Tryz.func65, Tryz.ntmps65
  go_wp2_with fail
  go_loopw [14, 5] (fun i g wr => ∃ (k : Nat) (b : Bool), k ≤ V.length ∧ i = .int .i64 (k : Int) ∧ g = .bool b ∧ Hid (b = fnV (V.take k)) ∧ Hid (CtRdr wr R D ((dvs (V.take k)).foldl stepC c)) ∧ ButB R w wr) (fun i _ _ => V.length - (intOf i).toNat)
  case atStart => exact ⟨0, true, Nat.zero_le _, rfl, rfl, rfl, H0.out, ButB.refl _ _⟩
  case round =>
    obtain ⟨k, b, hk, rfl, rfl, hfn, HR, hbut⟩ := hrel
    have HSr := Lib.hid (HS0.out.but HH0.out H0.out hbut)
    by_cases hlt : k < V.length
    · obtain ⟨ad, rfl, hc⟩ := HSr.out.at_ (by omega)
      have hcell := hc k V[k] (List.getElem?_eq_getElem hlt)
      have hvz := hz _ (List.getElem_mem hlt)
      have hsn := fold_dvs_snoc V k hlt c
      have hfs := fnV_snoc V k hlt
      obtain ⟨hEn, hEz⟩ := spl_sz hvz
      have CS := Lib.hid (fun W => split_any (mkS V[k]) W (by rw [mkS_size]; omega))
      rw [mkS_list] at CS
      have hse : splE V[k] = 0 ∨ splE V[k] = 5 := by
        unfold splE
        split
        · exact .inl rfl
        · exact .inr rfl
      generalize splO V[k] = E at *
      generalize splE V[k] = se at *
      generalize mkS V[k] = ms at *
      generalize (dvs (V.take k)).foldl stepC c = ck at *
      have hi0 : (0 : Int) ≤ (k : Int) := by omega
      have hi1 : (k : Int) < (V.length : Int) := by omega
      have HSN := Lib.hid hsn
      have HFS : Hid (fnV (V.take (k + 1)) = (b && decide (se = 0))) := by show _ = _; rw [hfs, ← hfn.out]
      clear hc hvz hsn hfs hfn
      rcases hse with hse | hse
      all_goals
        cases b
        all_goals
          subst hse
          go_wp2_with fail
          refine (CS.out _).mono ?_
          rintro e w2 ⟨A2, c2, rfl, hS2, hh2, hb2⟩
          have HS2 := Lib.hid hS2
          have HH2 := Lib.hid hh2
          have HR2 := Lib.hid (HR.out.below hb2)
          have HB2 := Lib.hid (hbut.trans (ButB.of_below hb2))
          clear hb2 hS2 hh2
          go_wp2_with fail
          go_loopw [27] (fun i wi => ∃ j : Nat, j ≤ E.length ∧ i = .int .i64 (j : Int) ∧ Hid (CtRdr wi R D ((E.take j).foldl readC ck)) ∧ ButB R w2 wi) (fun i _ => E.length - (intOf i).toNat)
          case atStart => exact ⟨0, Nat.zero_le _, rfl, HR2.out, ButB.refl _ _⟩
          case round =>
            obtain ⟨j, hj, rfl, HRi, hbi⟩ := hrel
            have HSi := Lib.hid (HS2.out.but HH2.out HR2.out hbi)
            by_cases hjl : j < E.length
            · obtain ⟨bd, rfl, hd⟩ := HSi.out.at_ (by omega)
              have hcell2 := hd j E[j] (List.getElem?_eq_getElem hjl)
              have hez := hEz _ (List.getElem_mem hjl)
              have hft := fold_take E j hjl ck
              have CR := Lib.hid (fun W (hW : CtRdr W R D ((E.take j).foldl readC ck)) => ctRead_any R D _ (mkS E[j]) W hW (by rw [mkS_size]; omega))
              rw [mkS_list, ← hft] at CR
              generalize mkS E[j] = me at *
              have hj0 : (0 : Int) ≤ (j : Int) := by omega
              have hj1 : (j : Int) < (E.length : Int) := by omega
              clear hd hft hez
              go_wp2_with fail
              refine (CR.out _ HRi.out).mono ?_
              rintro e w3 ⟨rfl, hr3, hb3⟩
              have HR3 := Lib.hid hr3
              have HB3 := Lib.hid (hbi.trans hb3)
              clear hr3 hb3
              go_wp2_with fail
              go_roundw
              case rel => exact ⟨j + 1, by omega, by go_num, HR3.out, HB3.out⟩
              case measure => simp [intOf]; omega
            · have HT : Hid (E.foldl readC ck = (E.take j).foldl readC ck) := by show _ = _; rw [List.take_of_length_le (by omega)]
              have hj1 : ¬ (j : Int) < (E.length : Int) := by omega
              go_wp2_with fail
              go_roundw
              case rel => exact ⟨k + 1, _, by omega, by go_num, rfl, by show _ = _; rw [HFS.out]; rfl, by show CtRdr _ _ _ _; rw [HSN.out, HT.out]; exact HRi.out, HB2.out.trans hbi⟩
              case measure => simp [intOf]; omega
    · rw [List.take_of_length_le (show V.length ≤ k by omega)] at hfn HR
      have hi1 : ¬ (k : Int) < (V.length : Int) := by omega
      go_wp2_with fail
      go_ret
      exact ⟨by rw [← hfn.out]; rfl, HR.out, hbut⟩

end Go.Proofs.YtnembpklidcgoaaGreatDoor
end
