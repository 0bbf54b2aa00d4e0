/-
  Texts that the laws of this seat lean on, one behind the other.
-/
import Derived.Test.YtmpiahahhkimkaaGreatDoorMrgO
import Derived.Test.YtmpiahahhkimkaaGreatDoorMrgF
import Derived.Test.YtmpiahahhkimkaaGreatDoorMrgE
import Derived.Deep.RegionHeld3
import Derived.Deep.AppendLies
import Derived.Test.YtmpiahahhkimkaaGreatDoorMrgQ
import Derived.Test.YtmpiahahhkimkaaGreatDoorMrgJ
import Derived.Test.YtmpiahahhkimkaaGreatDoorMrgM
import Derived.Test.YtmpiahahhkimkaaGreatDoorMrgP
import Derived.Test.YtmpiahahhkimkaaGreatDoorMrgN
import Derived.Shelf.Abstract
import Derived.Laws.EntriesVeiled
import Derived.Test.YtmpiahahhkimkaaGreatDoorMrgK
/-
  Contracts of the effects in package control's table of directives: each writes one cell behind the pointer.
-/
section
namespace Go.Proofs.YtmpiahahhkimkaaGreatDoor
open Go.RowKit

theorem rd_set {w : World} {R t k : Nat} {cs : Array Value} (h : w.heap[R]? = some (.cells cs t (0, 0))) (u : Value) : (w.setCell ⟨R, k, none⟩ u).heap[R]? = some (.cells (cs.setIfInBounds k u) t (0, 0)) := by
  simp [World.setCell, Array.getElem?_modify, h]
theorem rd_at {w : World} {R t : Nat} {cs : Array Value} (h : w.heap[R]? = some (.cells cs t (0, 0))) (k : Nat) (u : Value) (hk : cs[k]? = some u) : w.cell? ⟨R, k, none⟩ = some u ∧ w.frozen? ⟨R, k, none⟩ = false :=
  ⟨(cell_of_row _ _ _ _ _ _ h).trans hk, by simp [World.frozen?, h]⟩

set_option maxHeartbeats 4000000 in
set_option maxRecDepth 100000 in
theorem eff1_any (R : Nat) (A : Option Addr) (n cp : Nat) (ns nc pv pu mc oi : Bool) (ma sh mf : Int) (v : ByteArray) (w : World)
    (h : w.heap[R]? = some (.cells #[.slice A n cp, .bool ns, .bool nc, .bool pv, .bool pu, .bool mc, .bool oi, .int .i64 ma, .int .i64 sh, .int .i64 mf] 37 (0, 0))) :
    Calls Tryz.prog 27 #[.pointer (some ⟨R, 1, none⟩), .string v] w fun e w' => e = .returned (.tuple #[]) ∧ ButB R w w' ∧ w'.heap[R]? = some (.cells #[.slice A n cp, .bool true, .bool nc, .bool pv, .bool pu, .bool mc, .bool oi, .int .i64 ma, .int .i64 sh, .int .i64 mf] 37 (0, 0)) := by
  have HG := Lib.hid h
  obtain ⟨hc, hf⟩ := rd_at h 1 _ rfl
  clear h
  go_enter Tryz.func27, Tryz.ntmps27
  go_wp2_with fail
  go_end0
  exact ⟨rfl, (ButB.refl _ _).setCell _ _, rd_set HG.out _⟩

set_option maxHeartbeats 4000000 in
set_option maxRecDepth 100000 in
theorem eff2_any (R : Nat) (A : Option Addr) (n cp : Nat) (ns nc pv pu mc oi : Bool) (ma sh mf : Int) (v : ByteArray) (w : World)
    (h : w.heap[R]? = some (.cells #[.slice A n cp, .bool ns, .bool nc, .bool pv, .bool pu, .bool mc, .bool oi, .int .i64 ma, .int .i64 sh, .int .i64 mf] 37 (0, 0))) :
    Calls Tryz.prog 28 #[.pointer (some ⟨R, 1, none⟩), .string v] w fun e w' => e = .returned (.tuple #[]) ∧ ButB R w w' ∧ w'.heap[R]? = some (.cells #[.slice A n cp, .bool ns, .bool true, .bool pv, .bool pu, .bool mc, .bool oi, .int .i64 ma, .int .i64 sh, .int .i64 mf] 37 (0, 0)) := by
  have HG := Lib.hid h
  obtain ⟨hc, hf⟩ := rd_at h 2 _ rfl
  clear h
  go_enter Tryz.func28, Tryz.ntmps28
  go_wp2_with fail
  go_end0
  exact ⟨rfl, (ButB.refl _ _).setCell _ _, rd_set HG.out _⟩

set_option maxHeartbeats 4000000 in
set_option maxRecDepth 100000 in
theorem eff3_any (R : Nat) (A : Option Addr) (n cp : Nat) (ns nc pv pu mc oi : Bool) (ma sh mf : Int) (v : ByteArray) (w : World)
    (h : w.heap[R]? = some (.cells #[.slice A n cp, .bool ns, .bool nc, .bool pv, .bool pu, .bool mc, .bool oi, .int .i64 ma, .int .i64 sh, .int .i64 mf] 37 (0, 0))) :
    Calls Tryz.prog 29 #[.pointer (some ⟨R, 1, none⟩), .string v] w fun e w' => e = .returned (.tuple #[]) ∧ ButB R w w' ∧ w'.heap[R]? = some (.cells #[.slice A n cp, .bool ns, .bool nc, .bool true, .bool pu, .bool mc, .bool oi, .int .i64 ma, .int .i64 sh, .int .i64 mf] 37 (0, 0)) := by
  have HG := Lib.hid h
  obtain ⟨hc, hf⟩ := rd_at h 3 _ rfl
  clear h
  go_enter Tryz.func29, Tryz.ntmps29
  go_wp2_with fail
  go_end0
  exact ⟨rfl, (ButB.refl _ _).setCell _ _, rd_set HG.out _⟩

set_option maxHeartbeats 4000000 in
set_option maxRecDepth 100000 in
theorem eff4_any (R : Nat) (A : Option Addr) (n cp : Nat) (ns nc pv pu mc oi : Bool) (ma sh mf : Int) (v : ByteArray) (w : World)
    (h : w.heap[R]? = some (.cells #[.slice A n cp, .bool ns, .bool nc, .bool pv, .bool pu, .bool mc, .bool oi, .int .i64 ma, .int .i64 sh, .int .i64 mf] 37 (0, 0))) :
    Calls Tryz.prog 30 #[.pointer (some ⟨R, 1, none⟩), .string v] w fun e w' => e = .returned (.tuple #[]) ∧ ButB R w w' ∧ w'.heap[R]? = some (.cells #[.slice A n cp, .bool ns, .bool nc, .bool pv, .bool true, .bool mc, .bool oi, .int .i64 ma, .int .i64 sh, .int .i64 mf] 37 (0, 0)) := by
  have HG := Lib.hid h
  obtain ⟨hc, hf⟩ := rd_at h 4 _ rfl
  clear h
  go_enter Tryz.func30, Tryz.ntmps30
  go_wp2_with fail
  go_end0
  exact ⟨rfl, (ButB.refl _ _).setCell _ _, rd_set HG.out _⟩

set_option maxHeartbeats 4000000 in
set_option maxRecDepth 100000 in
theorem eff5_any (R : Nat) (A : Option Addr) (n cp : Nat) (ns nc pv pu mc oi : Bool) (ma sh mf : Int) (v : ByteArray) (w : World)
    (h : w.heap[R]? = some (.cells #[.slice A n cp, .bool ns, .bool nc, .bool pv, .bool pu, .bool mc, .bool oi, .int .i64 ma, .int .i64 sh, .int .i64 mf] 37 (0, 0))) :
    Calls Tryz.prog 31 #[.pointer (some ⟨R, 1, none⟩), .string v] w fun e w' => e = .returned (.tuple #[]) ∧ ButB R w w' ∧ w'.heap[R]? = some (.cells #[.slice A n cp, .bool ns, .bool nc, .bool pv, .bool pu, .bool true, .bool oi, .int .i64 ma, .int .i64 sh, .int .i64 mf] 37 (0, 0)) := by
  have HG := Lib.hid h
  obtain ⟨hc, hf⟩ := rd_at h 5 _ rfl
  clear h
  go_enter Tryz.func31, Tryz.ntmps31
  go_wp2_with fail
  go_end0
  exact ⟨rfl, (ButB.refl _ _).setCell _ _, rd_set HG.out _⟩

set_option maxHeartbeats 4000000 in
set_option maxRecDepth 100000 in
theorem eff6_any (R : Nat) (A : Option Addr) (n cp : Nat) (ns nc pv pu mc oi : Bool) (ma sh mf : Int) (v : ByteArray) (w : World)
    (h : w.heap[R]? = some (.cells #[.slice A n cp, .bool ns, .bool nc, .bool pv, .bool pu, .bool mc, .bool oi, .int .i64 ma, .int .i64 sh, .int .i64 mf] 37 (0, 0))) :
    Calls Tryz.prog 32 #[.pointer (some ⟨R, 1, none⟩), .string v] w fun e w' => e = .returned (.tuple #[]) ∧ ButB R w w' ∧ w'.heap[R]? = some (.cells #[.slice A n cp, .bool ns, .bool nc, .bool pv, .bool pu, .bool true, .bool oi, .int .i64 ma, .int .i64 sh, .int .i64 mf] 37 (0, 0)) := by
  have HG := Lib.hid h
  obtain ⟨hc, hf⟩ := rd_at h 5 _ rfl
  clear h
  go_enter Tryz.func32, Tryz.ntmps32
  go_wp2_with fail
  go_end0
  exact ⟨rfl, (ButB.refl _ _).setCell _ _, rd_set HG.out _⟩

set_option maxHeartbeats 4000000 in
set_option maxRecDepth 100000 in
theorem eff7_any (R : Nat) (A : Option Addr) (n cp : Nat) (ns nc pv pu mc oi : Bool) (ma sh mf : Int) (v : ByteArray) (w : World)
    (h : w.heap[R]? = some (.cells #[.slice A n cp, .bool ns, .bool nc, .bool pv, .bool pu, .bool mc, .bool oi, .int .i64 ma, .int .i64 sh, .int .i64 mf] 37 (0, 0))) :
    Calls Tryz.prog 33 #[.pointer (some ⟨R, 1, none⟩), .string v] w fun e w' => e = .returned (.tuple #[]) ∧ ButB R w w' ∧ w'.heap[R]? = some (.cells #[.slice A n cp, .bool ns, .bool nc, .bool pv, .bool pu, .bool mc, .bool true, .int .i64 ma, .int .i64 sh, .int .i64 mf] 37 (0, 0)) := by
  have HG := Lib.hid h
  obtain ⟨hc, hf⟩ := rd_at h 6 _ rfl
  clear h
  go_enter Tryz.func33, Tryz.ntmps33
  go_wp2_with fail
  go_end0
  exact ⟨rfl, (ButB.refl _ _).setCell _ _, rd_set HG.out _⟩

set_option maxHeartbeats 4000000 in
set_option maxRecDepth 100000 in
theorem eff8_any (R : Nat) (A : Option Addr) (n cp : Nat) (ns nc pv pu mc oi : Bool) (ma sh mf : Int) (v : ByteArray) (w : World)
    (h : w.heap[R]? = some (.cells #[.slice A n cp, .bool ns, .bool nc, .bool pv, .bool pu, .bool mc, .bool oi, .int .i64 ma, .int .i64 sh, .int .i64 mf] 37 (0, 0))) :
    Calls Tryz.prog 34 #[.pointer (some ⟨R, 1, none⟩), .string v] w fun e w' => e = .returned (.tuple #[]) ∧ ButB R w w' ∧ w'.heap[R]? = some (.cells #[.slice A n cp, .bool ns, .bool nc, .bool pv, .bool pu, .bool mc, .bool oi, .int .i64 (leaN ma (secN v.data.toList)), .int .i64 sh, .int .i64 mf] 37 (0, 0)) := by
  have HG := Lib.hid h
  obtain ⟨hc, hf⟩ := rd_at h 7 _ rfl
  clear h
  have CS := Lib.hid (fun W => secs_any v 0 W)
  have HS := Lib.hid (sec_or v.data.toList)
  rw [HS.out] at CS
  clear HS
  generalize secN v.data.toList = q at *
  have CL := Lib.hid (fun W => lst_any ma q W)
  generalize leaN ma q = r at *
  go_enter Tryz.func34, Tryz.ntmps34
  go_region_law (first
    | (go_simp; go_at_call 35; refine (CS.out _).mono ?_; rintro e w1 ⟨rfl, hb1⟩; have HB := Lib.hid hb1; have hc1 := cell_kept hb1 hc; have hf1 := (hb1.frozen (World.block_lt_of_cell? w _ hc)).trans hf; have HG1 := Lib.hid (zero_still hb1 HG.out); clear hb1)
    | (go_simp; go_at_call 12; refine (CL.out _).mono ?_; rintro e w2 ⟨rfl, rfl⟩))
  all_goals
    go_wp2_with fail
    go_end0
    exact ⟨rfl, (ButB.of_below (show Below w.heap.size w w1 from (Below.refl w.heap.size w).drew.trans HB.out)).setCell _ _, rd_set HG1.out _⟩

set_option maxHeartbeats 4000000 in
set_option maxRecDepth 100000 in
theorem eff9_any (R : Nat) (A : Option Addr) (n cp : Nat) (ns nc pv pu mc oi : Bool) (ma sh mf : Int) (v : ByteArray) (w : World)
    (h : w.heap[R]? = some (.cells #[.slice A n cp, .bool ns, .bool nc, .bool pv, .bool pu, .bool mc, .bool oi, .int .i64 ma, .int .i64 sh, .int .i64 mf] 37 (0, 0))) :
    Calls Tryz.prog 36 #[.pointer (some ⟨R, 1, none⟩), .string v] w fun e w' => e = .returned (.tuple #[]) ∧ ButB R w w' ∧ w'.heap[R]? = some (.cells #[.slice A n cp, .bool ns, .bool nc, .bool pv, .bool pu, .bool mc, .bool oi, .int .i64 ma, .int .i64 (leaN sh (secN v.data.toList)), .int .i64 mf] 37 (0, 0)) := by
  have HG := Lib.hid h
  obtain ⟨hc, hf⟩ := rd_at h 8 _ rfl
  clear h
  have CS := Lib.hid (fun W => secs_any v 0 W)
  have HS := Lib.hid (sec_or v.data.toList)
  rw [HS.out] at CS
  clear HS
  generalize secN v.data.toList = q at *
  have CL := Lib.hid (fun W => lst_any sh q W)
  generalize leaN sh q = r at *
  go_enter Tryz.func36, Tryz.ntmps36
  go_region_law (first
    | (go_simp; go_at_call 35; refine (CS.out _).mono ?_; rintro e w1 ⟨rfl, hb1⟩; have HB := Lib.hid hb1; have hc1 := cell_kept hb1 hc; have hf1 := (hb1.frozen (World.block_lt_of_cell? w _ hc)).trans hf; have HG1 := Lib.hid (zero_still hb1 HG.out); clear hb1)
    | (go_simp; go_at_call 12; refine (CL.out _).mono ?_; rintro e w2 ⟨rfl, rfl⟩))
  all_goals
    go_wp2_with fail
    go_end0
    exact ⟨rfl, (ButB.of_below (show Below w.heap.size w w1 from (Below.refl w.heap.size w).drew.trans HB.out)).setCell _ _, rd_set HG1.out _⟩

set_option maxHeartbeats 4000000 in
set_option maxRecDepth 100000 in
theorem eff10_any (R : Nat) (A : Option Addr) (n cp : Nat) (ns nc pv pu mc oi : Bool) (ma sh mf : Int) (v : ByteArray) (w : World)
    (h : w.heap[R]? = some (.cells #[.slice A n cp, .bool ns, .bool nc, .bool pv, .bool pu, .bool mc, .bool oi, .int .i64 ma, .int .i64 sh, .int .i64 mf] 37 (0, 0))) :
    Calls Tryz.prog 37 #[.pointer (some ⟨R, 1, none⟩), .string v] w fun e w' => e = .returned (.tuple #[]) ∧ ButB R w w' ∧ w'.heap[R]? = some (.cells #[.slice A n cp, .bool ns, .bool nc, .bool pv, .bool pu, .bool mc, .bool oi, .int .i64 ma, .int .i64 sh, .int .i64 (max mf (if secB v.data.toList = true then secN v.data.toList else 2147483648))] 37 (0, 0)) := by
  have HG := Lib.hid h
  obtain ⟨hc, hf⟩ := rd_at h 9 _ rfl
  clear h
  have CS := Lib.hid (fun W => secs_any v 2147483648 W)
  generalize (if secB v.data.toList = true then secN v.data.toList else 2147483648) = q at *
  go_enter Tryz.func37, Tryz.ntmps37
  go_region_law ((go_simp; go_at_call 35; refine (CS.out _).mono ?_; rintro e w1 ⟨rfl, hb1⟩; have HB := Lib.hid hb1; have hc1 := cell_kept hb1 hc; have hf1 := (hb1.frozen (World.block_lt_of_cell? w _ hc)).trans hf; have HG1 := Lib.hid (zero_still hb1 HG.out); clear hb1))
  all_goals
    go_wp2_with fail
    go_end0
    exact ⟨rfl, (ButB.of_below (show Below w.heap.size w w1 from (Below.refl w.heap.size w).drew.trans HB.out)).setCell _ _, rd_set HG1.out _⟩

end Go.Proofs.YtmpiahahhkimkaaGreatDoor
end

/-
  Contracts of package fields' Line, long, alike; the tests that choose, IndexFunc and ContainsFunc are handed.
-/
section
namespace Go.Proofs.YtmpiahahhkimkaaGreatDoor
open Go.RowKit

/-! ### The tests -/
theorem enters_named : ∀ args W, (callFunc 55 args).run Tryz.prog W = .ok (.enter 55 args) W := Go.Proofs.enters_of Tryz.func55 (by kernel_rfl) rfl
theorem enters_has : ∀ args W, (callFunc 47 args).run Tryz.prog W = .ok (.enter 47 args) W := Go.Proofs.enters_of Tryz.func47 (by kernel_rfl) rfl

theorem named_pred (w : World) (a : Nat) (A : Option Addr) (n c : Nat) (names : List (List UInt8)) (ha : w.cell? ⟨a, 0, none⟩ = some (.slice A n c)) (h : SlS w A n c names) (hz : ∀ x ∈ names, x.length ≤ maxLen) (hn : n ≤ 1000000000) :
    PredF w 55 #[.pointer (some ⟨a, 0, none⟩)] (nmd names) := fun W x hb h1 =>
  named_in a A n c names W (cell_kept hb ha) (h.below hb) hz hn x h1.one
end Go.Proofs.YtmpiahahhkimkaaGreatDoor
end

/-
  Contracts of package fields' Drop, All, Get, Has.
-/
section
namespace Go.Proofs.YtmpiahahhkimkaaGreatDoor
open Go.RowKit

theorem SlS.textAt (w : World) (t : TypeId) (x : ByteArray) {g : Nat} (hg : w.heap.size = g) : SlS (w.alloc (.cells #[.string x] t)) (some ⟨g, 0, none⟩) 1 1 [x.data.toList] := by
  subst hg
  exact SlS.text w t x
/-- What All answers. -/
def Vals (w : World) (X : List (List UInt8)) (e : Ending) (w' : World) : Prop :=
  ∃ A c, e = .returned (.slice A X.length c) ∧ SlS w' A X.length c X ∧ Head w' A ∧ Below w.heap.size w w'

set_option maxHeartbeats 4000000 in
set_option maxRecDepth 100000 in
theorem all_any (A : Option Addr) (n c : Nat) (L : List Fd) (name : ByteArray) (w : World) (h : SlF w A n c L) (hn : n ≤ 100000000) (hB : ∀ x ∈ L, Bd x) (hz : name.size ≤ maxLen) :
    Calls Tryz.prog 15 #[.slice A n c, .string name] w (Vals w (fdAll L name)) := by
  have hb1 : Below w.heap.size w (w.alloc (.cells #[.string name] 9)) := (Below.refl _ _).alloc (Nat.le_refl _) _
  have hb2 : Below w.heap.size w ((w.alloc (.cells #[.string name] 9)).alloc (.cells #[.slice (some ⟨w.heap.size, 0, none⟩) 1 1] 39)) := hb1.alloc (by simp) _
  have p1 : PredF ((w.alloc (.cells #[.string name] 9)).alloc (.cells #[.slice (some ⟨w.heap.size, 0, none⟩) 1 1] 39)) 55 #[.pointer (some ⟨w.heap.size + 1, 0, none⟩)] (nmd [name.data.toList]) :=
    named_pred _ (w.heap.size + 1) _ 1 1 [name.data.toList] (zero_one (heap_alloc2_new w _ _)) ((SlS.text w 9 name).alloc _) (fun x hx => by
      simp only [List.mem_singleton] at hx
      subst hx
      rw [← Lib.size_eq]; exact hz) (by decide)
  rw [nmd_one'] at p1
  have hq := choose_any A n c L _ (h.below hb2) hn hB 55 _ _ enters_named p1
  have hs2 : ((w.alloc (.cells #[.string name] 9)).alloc (.cells #[.slice (some ⟨w.heap.size, 0, none⟩) 1 1] 39)).heap.size = w.heap.size + 2 := by simp
  have HQ := Lib.hid hq
  have HB2 := Lib.hid hb2
  have HS2 := Lib.hid hs2
  have hD : fdAll L name = (L.filter fun x => sameB x.1 name).map fun x => x.2.data.toList := rfl
  rw [hD]
  have hlen : (L.filter fun x => sameB x.1 name).length ≤ 100000000 := Nat.le_trans (List.length_filter_le _ _) (by have := h.len; omega)
  have hsz : ∀ x ∈ (L.filter fun x => sameB x.1 name), x.1.size ≤ maxLen ∧ x.2.size ≤ maxLen := fun x hx => h.sz x ((List.mem_filter.1 hx).1)
  generalize (L.filter fun x => sameB x.1 name) = R at *
  clear hq hb1 hb2 hs2 p1 hD
  go_enter Tryz.func15, Tryz.ntmps15
  go_wp2_with fail
  refine (named_any _ 1 1 _ rfl _).mono ?_
  rintro e w1 ⟨rfl, rfl⟩
  go_wp2_with fail
  refine HQ.out.mono ?_
  rintro e w1 ⟨v, rfl, ho, hb⟩
  have hbw := HB2.out.trans (hb.mono (by rw [HS2.out]; omega))
  obtain ⟨A1, c1, rfl, hF⟩ := ho.slf hsz
  have HF := Lib.hid hF
  have HB := Lib.hid hbw
  clear ho hb hF hbw HQ HB2 HS2
  go_wp2_with fail
  go_loopw [5, 14] (fun v i wr => ∃ k : Nat, k ≤ R.length ∧ i = .int .i64 k ∧ Hid (OwnS wr w1.heap.size 9 v ((R.take k).map fun x => x.2.data.toList)) ∧ Below w1.heap.size w1 wr) (fun _ i _ => R.length - (intOf i).toNat)
  case atStart => exact ⟨0, Nat.zero_le _, rfl, OwnS.nil _ _ _, Below.refl _ _⟩
  case round =>
    obtain ⟨k, hk, rfl, hown, hbel⟩ := hrel
    by_cases hlt : k < R.length
    · obtain ⟨ad, rfl, hc⟩ := HF.out.at_ (by omega)
      obtain ⟨hc0, hc1⟩ := hc k R[k] (List.getElem?_eq_getElem hlt)
      have hcell0 := cell_kept hbel hc0
      have hcell1 := fd_snd (cell_kept hbel hc1)
      have HS : Hid ((R.take (k + 1)).map (fun x => x.2.data.toList) = (R.take k).map (fun x => x.2.data.toList) ++ [R[k].2.data.toList]) := by
        show _ = _
        rw [take_fd R k hlt, List.map_append]; rfl
      have hlx : ((R.take k).map fun x => x.2.data.toList).length ≤ k := by rw [List.length_map, List.length_take]; omega
      generalize R[k] = x at *
      obtain ⟨a, b⟩ := x
      generalize hX : ((R.take k).map fun x => x.2.data.toList) = X at *
      have hi0 : (0 : Int) ≤ (k : Int) := by omega
      have hi1 : (k : Int) < (R.length : Int) := by omega
      have HO := Lib.hid (hown.out.alloc (.cells #[.string a, .string b] 30))
      have HB5 := Lib.hid (hbel.alloc hbel.size (.cells #[.string a, .string b] 30))
      have hs5 := HB5.out.size
      have hs4 := hbel.size
      clear hc hc0 hc1 hown hX
      go_wp2_with (at_builtin; refine wpList_append_sls rfl _ _ _ rfl w1.heap.size 9 Tryz.underlying39 (by kernel_rfl) _ rfl X (HO.out.alloc _) _ _ _ rfl [b.data.toList] (SlS.textAt _ _ b (by simp)) (by simp; omega) (by simp; omega) w1 (HB5.out.alloc hs5 _) ?_; intro v1 w2 ho2 hb2 hz2)
      go_roundw
      case rel => exact ⟨k + 1, by omega, by go_num, by show OwnS _ _ _ _ _; rw [HS.out]; exact ho2.out, hb2⟩
      case measure => simp [intOf]; omega
    · have HE : Hid ((R.take k).map (fun x => x.2.data.toList) = R.map fun x => x.2.data.toList) := by
        show _ = _
        rw [List.take_of_length_le (by omega)]
      rw [HE.out] at hown
      go_wp2_with fail
      go_ret
      obtain ⟨A2, c2, rfl, hA, hH⟩ := hown.out.sls
      exact ⟨A2, c2, rfl, hA, hH, below_then HB.out hbel⟩

theorem getF_any (A : Option Addr) (n c : Nat) (L : List Fd) (name : ByteArray) (w : World) (h : SlF w A n c L) (hn : n ≤ 100000000) (hB : ∀ x ∈ L, Bd x) (hz : name.size ≤ maxLen) (hj : (Lib.join (fdAll L name) [44, 32]).length ≤ 1000000000000) :
    Calls Tryz.prog 21 #[.slice A n c, .string name] w fun e w' => e = .returned (.tuple #[.string (fdGet L name), .bool (fdGot L name)]) ∧ Below w.heap.size w w' := by
  have hq := all_any A n c L name w h hn hB hz
  have hD : fdGet L name = mkS (Lib.join (fdAll L name) [44, 32]) := rfl
  have hE : fdGot L name = decide ((0 : Int) < ((fdAll L name).length : Int)) := by
    unfold fdGot
    cases fdAll L name with
    | nil => rfl
    | cons x r => simp
  have hl : (fdAll L name).length ≤ 100000000 := by
    unfold fdAll
    rw [List.length_map]
    exact Nat.le_trans (List.length_filter_le _ _) (by have := h.len; omega)
  rw [hD, hE]
  generalize fdAll L name = X at *
  have HQ := Lib.hid hq
  have cj := fun A c W (hs : SlS W A X.length c X) hH => join_any A X.length c X W hs hH (by omega) hj
  generalize mkS (Lib.join X [44, 32]) = J at *
  have CJ := Lib.hid cj
  clear hq hD hE cj hj
  go_enter Tryz.func21, Tryz.ntmps21
  go_wp2_with fail
  refine HQ.out.mono ?_
  unfold Vals
  rintro e w1 ⟨A1, c1, rfl, hA, hH, hb1⟩
  go_wp2_with fail
  refine (CJ.out _ _ _ hA hH).mono ?_
  rintro e w2 ⟨rfl, hb2⟩
  by_cases h0 : (0 : Int) < (X.length : Int)
  all_goals
    go_wp2_with fail
    go_ret2
    exact ⟨by simp_all, below_then hb1 hb2⟩

theorem has_in (a : Nat) (item : ByteArray) (W : World) (ha : W.cell? ⟨a, 0, none⟩ = some (.string item)) (hi : item.size ≤ maxLen) (x : List UInt8) (hx : x.length ≤ 1000000000) :
    Calls Tryz.prog 47 #[.string (mkS x), .pointer (some ⟨a, 0, none⟩)] W fun e w' => e = .returned (.bool (hasL (splO x) item)) ∧ Below W.heap.size W w' := by
  have cc := has_any (mkS x) item W (by rw [mkS_size]; exact hx) hi
  rw [mkS_list] at cc
  generalize hasL (splO x) item = q at *
  generalize mkS x = s at *
  have CC := Lib.hid cc
  clear cc
  go_enter Tryz.func47, Tryz.ntmps47
  go_wp2_with fail
  refine CC.out.mono ?_
  rintro e w1 ⟨rfl, hb1⟩
  go_wp2_with fail
  go_ret
  exact ⟨rfl, hb1⟩

theorem hasF_any (A : Option Addr) (n c : Nat) (L : List Fd) (name item : ByteArray) (w : World) (h : SlF w A n c L) (hn : n ≤ 100000000) (hB : ∀ x ∈ L, Bd x) (hz : name.size ≤ maxLen) (hi : item.size ≤ maxLen) :
    Calls Tryz.prog 22 #[.slice A n c, .string name, .string item] w fun e w' => e = .returned (.bool (fdHas L name item)) ∧ Below w.heap.size w w' := by
  have hmf : ∀ (fn : Fn) (first cap : Array Value) (w : World), (Instr.makeFunc fn first cap).run Tryz.prog w = .ok (.func fn first cap) w := fun _ _ _ _ => rfl
  have hb1 : Below w.heap.size w (w.alloc (.cells #[.string item] 9)) := (Below.refl _ _).alloc (Nat.le_refl _) _
  have hq := all_any A n c L name (w.alloc (.cells #[.string item] 9)) (h.below hb1) hn hB hz
  have hD : fdHas L name item = (fdAll L name).any fun v => hasL (splO v) item := rfl
  have hl : (fdAll L name).length ≤ 100000000 := by
    unfold fdAll
    rw [List.length_map]
    exact Nat.le_trans (List.length_filter_le _ _) (by have := h.len; omega)
  have hx : ∀ x ∈ fdAll L name, x.length ≤ 1000000000 := fun x hx => by
    unfold fdAll at hx
    obtain ⟨y, hy, rfl⟩ := List.mem_map.1 hx
    rw [← Lib.size_eq]
    exact (hB y ((List.mem_filter.1 hy).1)).2
  rw [hD]
  generalize fdAll L name = X at *
  have cj := fun A c W (hb : Below w.heap.size (w.alloc (.cells #[.string item] 9)) W) (hc : W.cell? ⟨w.heap.size, 0, none⟩ = some (.string item)) (hs : SlS W A X.length c X) =>
    idxS_has A X.length c X W hs (by omega) hx 47 #[.pointer (some ⟨w.heap.size, 0, none⟩)] (fun v => hasL (splO v) item) enters_has (fun W' x hb' hx' => has_in w.heap.size item W' (cell_kept hb' hc) hi x hx')
  generalize (X.any fun v => hasL (splO v) item) = R at *
  have HQ := Lib.hid hq
  have CJ := Lib.hid cj
  clear hq hD cj hx
  go_enter Tryz.func22, Tryz.ntmps22
  go_wp2_with fail
  refine HQ.out.mono ?_
  unfold Vals
  rintro e w1 ⟨A1, c1, rfl, hA, hH, hb2⟩
  have hc := zero_one (zero_at hb2)
  go_wp2_with fail
  refine (CJ.out _ _ _ (hb2.mono (by simp)) hc hA).mono ?_
  rintro e w2 ⟨rfl, hb3⟩
  go_wp2_with fail
  go_ret
  exact ⟨rfl, below_then (zero_then hb2) hb3⟩

end Go.Proofs.YtmpiahahhkimkaaGreatDoor
end

/-
  Contracts of package fields' Set, Same, Check.
-/
section
namespace Go.Proofs.YtmpiahahhkimkaaGreatDoor
open Go.RowKit

/-! ### Set -/
theorem set_place (L : List Fd) (f : Fd) : (idxP (fun x => sameB x.1 f.1) L = -1 ∧ fdSet L f = (fdDrop L [f.1.data.toList]).take (fdDrop L [f.1.data.toList]).length ++ [f] ++ (fdDrop L [f.1.data.toList]).drop (fdDrop L [f.1.data.toList]).length) ∨
    ∃ i : Nat, idxP (fun x => sameB x.1 f.1) L = i ∧ i ≤ (fdDrop L [f.1.data.toList]).length ∧ fdSet L f = (fdDrop L [f.1.data.toList]).take i ++ [f] ++ (fdDrop L [f.1.data.toList]).drop i := by
  have hD : fdDrop L [f.1.data.toList] = L.filter fun x => !sameB x.1 f.1 := by
    unfold fdDrop
    rw [nmd_one']
  rw [hD]
  rcases idxP_cases (fun x => sameB x.1 f.1) L with ⟨h1, h2⟩ | ⟨i, hi, h1, h2, h3⟩
  · refine .inl ⟨h1, ?_⟩
    rw [List.take_length, List.drop_length, List.append_nil]
    exact set_none f L h2
  · obtain ⟨h4, h5⟩ := set_at f L i hi h3 h2
    exact .inr ⟨i, h1, h4, h5⟩

end Go.Proofs.YtmpiahahhkimkaaGreatDoor
end

/-
  Contracts of the reference's Few, Line (layer 9).
-/
section
namespace Go.Proofs.YtmpiahahhkimkaaGreatDoor
open Go.RowKit

def okF (b : Nat) (x : Fd) : Bool := decide (x.1.size ≤ b) && decide (x.2.size ≤ b)
def fewB (L : List Fd) (m b : Nat) : Bool := (L.take (m + 1)).all (okF b) && decide (L.length ≤ m)
theorem few_bad {L : List Fd} {m b k : Nat} (hk : k < L.length) (hm : k ≤ m) (h : okF b L[k] = false) : fewB L m b = false := by
  unfold fewB
  have : (L.take (m + 1)).all (okF b) = false := by
    rw [List.all_eq_false]
    exact ⟨L[k], List.mem_take_iff_getElem.2 ⟨k, by omega, rfl⟩, by simp [h]⟩
  rw [this]; rfl
theorem few_all {L : List Fd} {m b k : Nat} (hk : L.length ≤ k) (h : (L.take k).all (okF b) = true) : fewB L m b = decide (L.length ≤ m) := by
  unfold fewB
  rw [List.take_of_length_le hk] at h
  have : (L.take (m + 1)).all (okF b) = true := by
    rw [List.all_eq_true] at h ⊢
    exact fun x hx => h x (List.mem_of_mem_take hx)
  rw [this, Bool.true_and]
theorem few_many {L : List Fd} {m b : Nat} (h : m < L.length) : fewB L m b = false := by
  unfold fewB
  rw [decide_eq_false (by omega), Bool.and_false]
/-- What the law's guard leaves. -/
theorem few_yes {L : List Fd} {m b : Nat} (h : fewB L m b = true) : L.length ≤ m ∧ ∀ x ∈ L, x.1.size ≤ b ∧ x.2.size ≤ b := by
  unfold fewB at h
  rw [Bool.and_eq_true, decide_eq_true_eq, List.all_eq_true] at h
  refine ⟨h.2, fun x hx => ?_⟩
  have := h.1 x (by rw [List.take_of_length_le (by omega)]; exact hx)
  simpa [okF] using this

theorem rf_few (A : Option Addr) (n c m b : Nat) (L : List Fd) (w : World) (h : SlF w A n c L) (hm : m ≤ 1000) :
    Calls Tryz.prog 4 #[.slice A n c, .int .i64 m, .int .i64 b] w fun e w' => e = .returned (.bool (fewB L m b)) ∧ w = w' := by
  have hlen := h.len
  subst hlen
  go_enter Tryz.func4, Tryz.ntmps4
  go_wp2_with fail
  go_loop [7] (fun i => ∃ k : Nat, k ≤ L.length ∧ k ≤ m + 1 ∧ i = .int .i64 k ∧ Hid ((L.take k).all (okF b) = true)) (fun i => L.length - (intOf i).toNat)
  case atStart => exact ⟨0, Nat.zero_le _, Nat.zero_le _, rfl, rfl⟩
  case round =>
    obtain ⟨k, hk, hkm, rfl, hf⟩ := hrel
    by_cases hlt : k < L.length
    · by_cases hle : k ≤ m
      · obtain ⟨ad, rfl, hc⟩ := h.at_ (by omega)
        obtain ⟨hc0, hc1⟩ := hc k L[k] (List.getElem?_eq_getElem hlt)
        have hcell1 := fd_snd hc1
        have HN : Hid (okF b L[k] = false → fewB L m b = false) := fun hh => few_bad hlt hle hh
        have HY : Hid (okF b L[k] = true → (L.take (k + 1)).all (okF b) = true) := fun hh => by
          rw [take_fd L k hlt, List.all_append, hf.out]; simp [hh]
        generalize L[k] = x at *
        obtain ⟨f, v⟩ := x
        have hi0 : (0 : Int) ≤ (k : Int) := by omega
        have hi1 : (k : Int) < (L.length : Int) := by omega
        have hi2 : (k : Int) ≤ (m : Int) := by omega
        clear hc hf
        by_cases h1 : (b : Int) < (f.size : Int)
        · have HR := Lib.hid (HN.out (by simp [okF]; omega))
          clear HN HY
          go_wp2_with fail
          go_ret
          exact ⟨by rw [HR.out]; rfl, rfl⟩
        · by_cases h2 : (b : Int) < (v.size : Int)
          · have HR := Lib.hid (HN.out (by simp [okF]; omega))
            clear HN HY
            go_wp2_with fail
            go_ret
            exact ⟨by rw [HR.out]; rfl, rfl⟩
          · have HR := Lib.hid (HY.out (by simp [okF]; omega))
            clear HN HY
            go_wp2_with fail
            go_round
            case rel => exact ⟨k + 1, by omega, by omega, by go_num, HR⟩
            case measure => simp [intOf]; omega
      · have hi1 : (k : Int) < (L.length : Int) := by omega
        have hi2 : ¬ (k : Int) ≤ (m : Int) := by omega
        have hi3 : ¬ (L.length : Int) ≤ (m : Int) := by omega
        have HR := Lib.hid (few_many (L := L) (m := m) (b := b) (by omega))
        clear hf
        go_wp2_with fail
        go_ret
        exact ⟨by rw [HR.out]; rfl, rfl⟩
    · have hi1 : ¬ (k : Int) < (L.length : Int) := by omega
      have HR := Lib.hid (few_all (L := L) (m := m) (b := b) (k := k) (by omega) hf.out)
      clear hf
      by_cases h3 : (L.length : Int) ≤ (m : Int)
      · have e : decide (L.length ≤ m) = true := decide_eq_true (by omega)
        rw [e] at HR
        clear e
        go_wp2_with fail
        go_ret
        exact ⟨by rw [HR.out]; rfl, rfl⟩
      · have e : decide (L.length ≤ m) = false := decide_eq_false (by omega)
        rw [e] at HR
        clear e
        go_wp2_with fail
        go_ret
        exact ⟨by rw [HR.out]; rfl, rfl⟩

end Go.Proofs.YtmpiahahhkimkaaGreatDoor
end

/-
  Contracts of the reference's All, Get, Has, Set (layer 9).
-/
section
namespace Go.Proofs.YtmpiahahhkimkaaGreatDoor
open Go.RowKit

set_option maxHeartbeats 4000000 in
set_option maxRecDepth 100000 in
theorem rf_all (A : Option Addr) (n c : Nat) (L : List Fd) (name : ByteArray) (w : World) (h : SlF w A n c L) (hn : n ≤ 100000000) (hz : name.size ≤ maxLen) :
    Calls Tryz.prog 23 #[.slice A n c, .string name] w (Vals w (fdAll L name)) := by
  have hlen := h.len
  subst hlen
  have hD : fdAll L name = (L.filter fun x => sameB x.1 name).map fun x => x.2.data.toList := rfl
  rw [hD]
  go_enter Tryz.func23, Tryz.ntmps23
  go_wp2_with fail
  go_loopw [5, 6] (fun v i wr => ∃ k : Nat, k ≤ L.length ∧ i = .int .i64 k ∧ Hid (OwnS wr w.heap.size 9 v (((L.take k).filter fun x => sameB x.1 name).map fun x => x.2.data.toList)) ∧ Below w.heap.size w wr) (fun _ i _ => L.length - (intOf i).toNat)
  case atStart => exact ⟨0, Nat.zero_le _, rfl, OwnS.nil _ _ _, Below.refl _ _⟩
  case round =>
    obtain ⟨k, hk, rfl, hown, hbel⟩ := hrel
    by_cases hlt : k < L.length
    · obtain ⟨ad, rfl, hc⟩ := h.at_ (by omega)
      obtain ⟨hc0, hc1⟩ := hc k L[k] (List.getElem?_eq_getElem hlt)
      have hcell0 := cell_kept hbel hc0
      have hc1' := fd_snd hc1
      have hz1 := (h.sz _ (List.getElem_mem hlt)).1
      have hlx : (((L.take k).filter fun x => sameB x.1 name).map fun x => x.2.data.toList).length ≤ k := by
        rw [List.length_map]
        exact Nat.le_trans (List.length_filter_le _ _) (by rw [List.length_take]; omega)
      have HF := filter_snoc (fun x => sameB x.1 name) (L.take k) L[k]
      rw [← take_fd L k hlt] at HF
      generalize L[k] = x at *
      obtain ⟨a, b⟩ := x
      have hi0 : (0 : Int) ≤ (k : Int) := by omega
      have hi1 : (k : Int) < (L.length : Int) := by omega
      have hs4 := hbel.size
      cases hsm : sameB a name with
      | true =>
        have HS : Hid (((L.take (k + 1)).filter fun x => sameB x.1 name).map (fun x => x.2.data.toList) = ((L.take k).filter fun x => sameB x.1 name).map (fun x => x.2.data.toList) ++ [b.data.toList]) := by
          show _ = _
          rw [HF, if_pos hsm, List.map_append]; rfl
        generalize hX : (((L.take k).filter fun x => sameB x.1 name).map fun x => x.2.data.toList) = X at *
        have HSM := Lib.hid hsm
        clear hc hc0 hc1 hX HF hsm
        go_wp2_with fail
        refine (r_same a name _ hz1 hz).mono ?_
        rintro e w1 ⟨he, hb1⟩
        rw [HSM.out] at he
        subst he
        have hcell1 := cell_kept (hbel.trans (hb1.mono hs4)) hc1'
        have HO := Lib.hid (hown.out.below hb1)
        have HB := Lib.hid (hbel.trans (hb1.mono hs4))
        have hs5 := HB.out.size
        clear hb1 hown
        go_wp2_with (at_builtin; refine wpList_append_sls rfl _ _ _ rfl w.heap.size 9 Tryz.underlying39 (by kernel_rfl) _ rfl X (HO.out.alloc _) _ _ _ rfl [b.data.toList] (SlS.textAt _ _ b rfl) (by simp; omega) (by simp; omega) w (HB.out.alloc hs5 _) ?_; intro v1 w2 ho2 hb2 hz2)
        go_roundw
        case rel => exact ⟨k + 1, by omega, by go_num, by show OwnS _ _ _ _ _; rw [HS.out]; exact ho2.out, hb2⟩
        case measure => simp [intOf]; omega
      | false =>
        have HS : Hid (((L.take (k + 1)).filter fun x => sameB x.1 name).map (fun x => x.2.data.toList) = ((L.take k).filter fun x => sameB x.1 name).map (fun x => x.2.data.toList)) := by
          show _ = _
          rw [HF, if_neg (by simp [hsm])]
        have HSM := Lib.hid hsm
        clear hc hc0 hc1 HF hsm hlx
        go_wp2_with fail
        refine (r_same a name _ hz1 hz).mono ?_
        rintro e w1 ⟨he, hb1⟩
        rw [HSM.out] at he
        subst he
        go_wp2_with fail
        go_roundw
        case rel => exact ⟨k + 1, by omega, by go_num, by show OwnS _ _ _ _ _; rw [HS.out]; exact hown.out.below hb1, hbel.trans (hb1.mono hs4)⟩
        case measure => simp [intOf]; omega
    · have HE : Hid (((L.take k).filter fun x => sameB x.1 name).map (fun x => x.2.data.toList) = (L.filter fun x => sameB x.1 name).map fun x => x.2.data.toList) := by
        show _ = _
        rw [List.take_of_length_le (by omega)]
      rw [HE.out] at hown
      go_wp2_with fail
      go_ret
      obtain ⟨A2, c2, rfl, hA, hH⟩ := hown.out.sls
      exact ⟨A2, c2, rfl, hA, hH, hbel⟩

theorem rf_has (A : Option Addr) (n c : Nat) (L : List Fd) (name item : ByteArray) (w : World) (h : SlF w A n c L) (hn : n ≤ 10000) (hz : name.size ≤ maxLen) (hi : item.size ≤ maxLen) (hB : ∀ x ∈ L, x.2.size ≤ 10000) :
    Calls Tryz.prog 24 #[.slice A n c, .string name, .string item] w fun e w' => e = .returned (.bool (fdHas L name item)) ∧ Below w.heap.size w w' := by
  have hq := rf_all A n c L name w h (by omega) hz
  have hD : fdHas L name item = (fdAll L name).any fun v => hasL (splO v) item := rfl
  have hl : (fdAll L name).length ≤ 10000 := by
    unfold fdAll
    rw [List.length_map]
    exact Nat.le_trans (List.length_filter_le _ _) (by have := h.len; omega)
  have hx : ∀ x ∈ fdAll L name, x.length ≤ 10000 := fun x hx => by
    unfold fdAll at hx
    obtain ⟨y, hy, rfl⟩ := List.mem_map.1 hx
    rw [← Lib.size_eq]
    exact hB y (List.mem_filter.1 hy).1
  rw [hD]
  generalize fdAll L name = X at *
  have HQ := Lib.hid hq
  have HX := Lib.hid hx
  clear hq hD hx
  go_enter Tryz.func24, Tryz.ntmps24
  go_wp2_with fail
  refine HQ.out.mono ?_
  unfold Vals
  rintro e w1 ⟨A1, c1, rfl, hA, hH, hb1⟩
  go_wp2_with fail
  go_loopw [8] (fun i wr => ∃ k : Nat, k ≤ X.length ∧ i = .int .i64 k ∧ Hid ((X.take k).any (fun v => hasL (splO v) item) = false) ∧ Below w1.heap.size w1 wr) (fun i _ => X.length - (intOf i).toNat)
  case atStart => exact ⟨0, Nat.zero_le _, rfl, rfl, Below.refl _ _⟩
  case round =>
    obtain ⟨k, hk, rfl, hf, hbel⟩ := hrel
    by_cases hlt : k < X.length
    · obtain ⟨ad, rfl, hc⟩ := hA.at_ (by omega)
      have hcell := cell_kept hbel (hc k X[k] (List.getElem?_eq_getElem hlt))
      have HT : Hid ((X.take (k + 1)).any (fun v => hasL (splO v) item) = hasL (splO X[k]) item) := by
        show _ = _
        rw [List.take_succ_eq_append_getElem hlt, List.any_append, hf.out]; simp
      have HM : Hid (hasL (splO X[k]) item = true → X.any (fun v => hasL (splO v) item) = true) := fun h => List.any_eq_true.2 ⟨X[k], List.getElem_mem hlt, h⟩
      have cc := fun W => r_has (mkS X[k]) item W (by rw [mkS_size]; have := HX.out _ (List.getElem_mem hlt); omega) hi
      have e1 : (mkS X[k]).data.toList = X[k] := rfl
      rw [e1] at cc
      obtain ⟨x, hx⟩ : ∃ x, x = mkS X[k] := ⟨_, rfl⟩
      rw [← hx] at hcell cc
      generalize hasL (splO X[k]) item = q at *
      have CC := Lib.hid cc
      have hi0 : (0 : Int) ≤ (k : Int) := by omega
      have hi1 : (k : Int) < (X.length : Int) := by omega
      clear hx hf hc e1 cc
      cases q with
      | true =>
        have HR := Lib.hid (HM.out rfl)
        clear HM HT
        go_wp2_with fail
        refine (CC.out _).mono ?_
        rintro e w2 ⟨rfl, hb2⟩
        go_wp2_with fail
        go_ret
        exact ⟨by rw [HR.out]; rfl, below_then hb1 (hbel.trans (hb2.mono hbel.size))⟩
      | false =>
        have HR := Lib.hid HT.out
        clear HM HT
        go_wp2_with fail
        refine (CC.out _).mono ?_
        rintro e w2 ⟨rfl, hb2⟩
        go_wp2_with fail
        go_roundw
        case rel => exact ⟨k + 1, by omega, by go_num, HR, hbel.trans (hb2.mono hbel.size)⟩
        case measure => simp [intOf]; omega
    · have HR : Hid (X.any (fun v => hasL (splO v) item) = false) := by
        have := hf.out
        rwa [List.take_of_length_le (by omega)] at this
      clear hf
      go_wp2_with fail
      go_ret
      exact ⟨by rw [HR.out]; rfl, below_then hb1 hbel⟩

/-! ### Set -/
theorem setR_drop (f : Fd) (L : List Fd) (k : Nat) (h : k < L.length) (b : Bool) : setR f b (L.drop k) = if sameB L[k].1 f.1 then (if b then setR f true (L.drop (k + 1)) else f :: setR f true (L.drop (k + 1))) else L[k] :: setR f b (L.drop (k + 1)) := by
  rw [List.drop_eq_getElem_cons h]; rfl

end Go.Proofs.YtmpiahahhkimkaaGreatDoor
end

/-
  Contract of the reference's elements (layer 13).
-/
section
namespace Go.Proofs.YtmpiahahhkimkaaGreatDoor
open Go.RowKit

theorem dvs_snoc (V : List (List UInt8)) (k : Nat) (h : k < V.length) : dvs (V.take (k + 1)) = dvs (V.take k) ++ dvV V[k] := by
  unfold dvs
  rw [List.take_succ_eq_append_getElem h, List.flatMap_append]
  simp
theorem fnV_snoc (V : List (List UInt8)) (k : Nat) (h : k < V.length) : fnV (V.take (k + 1)) = (fnV (V.take k) && decide (splE V[k] = 0)) := by
  unfold fnV
  rw [List.take_succ_eq_append_getElem h, List.all_append]
  simp
theorem dvV_len (v : List UInt8) : (dvV v).length ≤ v.length + 1 := by
  unfold dvV
  refine Nat.le_trans (List.length_filterMap_le _ _) ?_
  unfold splO
  cases e : splitL v with
  | none => exact Nat.zero_le _
  | some L => exact (split_good e).2
theorem dvs_len : ∀ V : List (List UInt8), (∀ v ∈ V, v.length ≤ 10000) → (dvs V).length ≤ V.length * 10001
  | [], _ => Nat.zero_le _
  | v :: V, h => by
    have h1 := dvs_len V fun x hx => h x (List.mem_cons_of_mem _ hx)
    have h2 := h v (List.mem_cons_self ..)
    have h3 := dvV_len v
    have : dvs (v :: V) = dvV v ++ dvs V := rfl
    rw [this, List.length_append, List.length_cons]
    omega
theorem fm_snoc (E : List (List UInt8)) (j : Nat) (h : j < E.length) : (E.take (j + 1)).filterMap dvO = (E.take j).filterMap dvO ++ (match dvO E[j] with | some d => [d] | none => []) := by
  rw [List.take_succ_eq_append_getElem h, List.filterMap_append]
  congr 1
  cases e : dvO E[j] with
  | none => simp [e]
  | some d => simp [e]
theorem spl_sz {v : List UInt8} (h : v.length ≤ 10000) : (splO v).length ≤ 10001 ∧ ∀ x ∈ splO v, x.length ≤ 10000 := by
  unfold splO
  cases e : splitL v with
  | none => exact ⟨by simp, fun x hx => by simp at hx⟩
  | some L =>
    obtain ⟨g1, g2⟩ := split_good e
    exact ⟨by show L.length ≤ _; omega, fun x hx => by have := (g1 x hx).2; omega⟩

theorem ccS_le : ccS.size ≤ maxLen := by decide
set_option maxHeartbeats 16000000 in
set_option maxRecDepth 100000 in
theorem r_elements (A : Option Addr) (n c : Nat) (L : List Fd) (w : World) (h : SlF w A n c L) (hn : n ≤ 1000) (hB : ∀ x ∈ L, x.2.size ≤ 10000) :
    Calls Tryz.prog 17 #[.slice A n c] w fun e w' => ∃ A1 c1 A2 c2, e = .returned (.tuple #[.slice A1 (dvs (fdAll L ccS)).length c1, .slice A2 (dvs (fdAll L ccS)).length c2, .bool (fnV (fdAll L ccS))]) ∧
      SlS w' A1 (dvs (fdAll L ccS)).length c1 ((dvs (fdAll L ccS)).map (·.1)) ∧ SlS w' A2 (dvs (fdAll L ccS)).length c2 ((dvs (fdAll L ccS)).map (·.2)) ∧ Below w.heap.size w w' := by
  have C1 := Lib.hid (rf_all A n c L ccS w h (by omega) ccS_le)
  have hVz : ∀ x ∈ fdAll L ccS, x.length ≤ 10000 := fun x hx => by
    unfold fdAll at hx
    obtain ⟨y, hy, rfl⟩ := List.mem_map.1 hx
    rw [← Lib.size_eq]
    exact hB y (List.mem_filter.1 hy).1
  have hVn : (fdAll L ccS).length ≤ 1000 := by
    unfold fdAll
    rw [List.length_map]
    exact Nat.le_trans (List.length_filter_le _ _) (by rw [h.len]; exact hn)
  generalize fdAll L ccS = V at *
  unfold ccS at C1
  clear h hB hn
  go_enter Tryz.func17, Tryz.ntmps17
  go_wp2_with fail
  refine C1.out.mono ?_
  rintro e w1 ⟨A0, c0, rfl, hS, _, hb1⟩
  have HS := Lib.hid hS
  have HB := Lib.hid hb1
  clear hb1 hS C1
  go_wp2_with fail
  go_loopw [5, 6, 7, 9] (fun v u g i wr => ∃ (k : Nat) (b : Bool), k ≤ V.length ∧ i = .int .i64 (k : Int) ∧ g = .bool b ∧ Hid (OwnS wr w1.heap.size 9 v ((dvs (V.take k)).map (·.1))) ∧ Hid (OwnS wr w1.heap.size 9 u ((dvs (V.take k)).map (·.2))) ∧ Hid (Apt u v) ∧ Hid (b = fnV (V.take k)) ∧ Below w1.heap.size w1 wr) (fun _ _ _ i _ => V.length - (intOf i).toNat)
  case atStart => exact ⟨0, true, Nat.zero_le _, rfl, rfl, OwnS.nil _ _ _, OwnS.nil _ _ _, Apt.none_ _, rfl, Below.refl _ _⟩
  case round =>
    obtain ⟨k, b, hk, rfl, rfl, hown, hun, hap, hfn, hbel1⟩ := hrel
    by_cases hlt : k < V.length
    · obtain ⟨ad, rfl, hc⟩ := HS.out.at_ (by omega)
      have hcell := cell_kept hbel1 (hc k V[k] (List.getElem?_eq_getElem hlt))
      have hvz := hVz _ (List.getElem_mem hlt)
      have hsn := dvs_snoc V k hlt
      have hfs := fnV_snoc V k hlt
      obtain ⟨hEn, hEz⟩ := spl_sz hvz
      have hPl := dvs_len (V.take k) (fun x hx => hVz x (List.mem_of_mem_take hx))
      have hPk : (V.take k).length ≤ 1000 := by rw [List.length_take]; omega
      have CS := Lib.hid (fun W => r_split_f (mkS V[k]) W (by rw [mkS_size]; omega))
      rw [mkS_list] at CS
      have hse : splE V[k] = 0 ∨ splE V[k] = 5 := by
        unfold splE
        split
        · exact .inl rfl
        · exact .inr rfl
      unfold dvV at hsn
      generalize splO V[k] = E at *
      generalize splE V[k] = se at *
      generalize mkS V[k] = ms at *
      generalize dvs (V.take k) = P at *
      have hPlen : P.length ≤ 10001000 := by
        refine Nat.le_trans hPl ?_
        exact Nat.mul_le_mul_right 10001 hPk
      have hi0 : (0 : Int) ≤ (k : Int) := by omega
      have hi1 : (k : Int) < (V.length : Int) := by omega
      have hs41 := hbel1.size
      have HSN := Lib.hid hsn
      have HFS : Hid (fnV (V.take (k + 1)) = (b && decide (se = 0))) := by show _ = _; rw [hfs, ← hfn.out]
      clear hc hvz hPl hPk hsn hfs hfn
      rcases hse with hse | hse
      all_goals
        cases b
        all_goals
          subst hse
          go_wp2_with fail
          refine (CS.out _).mono ?_
          rintro e w2 ⟨A2, c2, rfl, hS2, _, hfr, hb2⟩
          have HS2 := Lib.hid hS2
          have HOV : Hid (Off A2 _) := fun ad ha he => by
            have h1 := hfr ad ha
            have h2 := (World.ownsRow.lt hown.out ad.block he).2
            omega
          have HOU : Hid (Off A2 _) := fun ad ha he => by
            have h1 := hfr ad ha
            have h2 := (World.ownsRow.lt hun.out ad.block he).2
            omega
          have HO := Lib.hid (hown.out.below hb2)
          have HU := Lib.hid (hun.out.below hb2)
          have HB21 := Lib.hid (hbel1.trans (hb2.mono hs41))
          clear hb2 hS2 hfr
          go_wp2_with fail
          go_loopw [5, 6, 12] (fun v u i wi => ∃ j : Nat, j ≤ E.length ∧ i = .int .i64 (j : Int) ∧ Hid (OwnS wi w1.heap.size 9 v ((P ++ (E.take j).filterMap dvO).map (·.1))) ∧ Hid (OwnS wi w1.heap.size 9 u ((P ++ (E.take j).filterMap dvO).map (·.2))) ∧ Hid (Apt u v) ∧ Hid (SlS wi A2 E.length c2 E) ∧ Hid (Off A2 v) ∧ Hid (Off A2 u) ∧ Below w1.heap.size w1 wi) (fun _ _ i _ => E.length - (intOf i).toNat)
          case atStart => exact ⟨0, Nat.zero_le _, rfl, by show OwnS _ _ _ _ _; rw [List.take_zero, List.filterMap_nil, List.append_nil]; exact HO.out, by show OwnS _ _ _ _ _; rw [List.take_zero, List.filterMap_nil, List.append_nil]; exact HU.out, hap, HS2.out, HOV, HOU, HB21.out⟩
          case round =>
            clear hown hun hap HO HU HS2 HOV HOU
            obtain ⟨j, hj, rfl, hown, hun, hap, HS2, HOV, HOU, hb21⟩ := hrel
            by_cases hjl : j < E.length
            · obtain ⟨bd, rfl, hd⟩ := HS2.out.at_ (by omega)
              have hcell2 := hd j E[j] (List.getElem?_eq_getElem hjl)
              have hblk := HS2.out.lt (by omega)
              have hez := hEz _ (List.getElem_mem hjl)
              have hfm := fm_snoc E j hjl
              have CP := Lib.hid (fun W => r_param (mkS E[j]) W (by rw [mkS_size]; omega))
              have hdv : dvO E[j] = if parE (mkS E[j]) = 0 then some ((parN (mkS E[j])).data.toList, (parV (mkS E[j])).data.toList) else none := rfl
              rw [hdv] at hfm
              have hXl : (P ++ (E.take j).filterMap dvO).length ≤ 10011001 := by
                rw [List.length_append]
                have := List.length_filterMap_le dvO (E.take j)
                rw [List.length_take] at this
                omega
              generalize parE (mkS E[j]) = pe at *
              generalize parN (mkS E[j]) = pn at *
              generalize parV (mkS E[j]) = pv at *
              generalize parH (mkS E[j]) = ph at *
              generalize mkS E[j] = me at *
              generalize (E.take j).filterMap dvO = Q at *
              have hj0 : (0 : Int) ≤ (j : Int) := by omega
              have hj1 : (j : Int) < (E.length : Int) := by omega
              have hsB := hb21.size
              clear hd hez hdv
              by_cases hpe : pe = 0
              · rw [if_pos hpe] at hfm
                have HF1 : Hid ((P ++ (E.take (j + 1)).filterMap dvO).map (·.1) = (P ++ Q).map (·.1) ++ [pn.data.toList]) := by show _ = _; rw [hfm]; simp
                have HF2 : Hid ((P ++ (E.take (j + 1)).filterMap dvO).map (·.2) = (P ++ Q).map (·.2) ++ [pv.data.toList]) := by show _ = _; rw [hfm]; simp
                have hX1 : ((P ++ Q).map (·.1)).length ≤ 10011001 := by rw [List.length_map]; exact hXl
                have hX2 : ((P ++ Q).map (·.2)).length ≤ 10011001 := by rw [List.length_map]; exact hXl
                generalize (P ++ Q).map (·.1) = X1 at *
                generalize (P ++ Q).map (·.2) = X2 at *
                subst hpe
                clear hfm hXl
                go_wp2_with fail
                refine (CP.out _).mono ?_
                rintro e w3 ⟨rfl, hb3⟩
                have HO := Lib.hid (hown.out.below hb3)
                have HU := Lib.hid (hun.out.below hb3)
                have HBB := Lib.hid (hb21.trans (hb3.mono hsB))
                have HSE := Lib.hid (HS2.out.below hb3)
                have hs5 := HBB.out.size
                have hs6 := hb3.size
                clear hb3 hown hun
                go_wp2_with (at_builtin; first
                  | (refine wpList_append_sls2 rfl _ _ _ rfl w1.heap.size 9 Tryz.underlying39 (by kernel_rfl) _ rfl X1 (HO.out.alloc _) _ _ _ rfl [pn.data.toList] (SlS.textAt _ _ pn rfl) (by simp; omega) (by simp; omega) w1 (HBB.out.alloc hs5 _) _ X2 (HU.out.alloc _) hap.out ?_; intro v1 w4 ho1 hu1 ha1 hb4 hz4 hg4)
                  | (refine wpList_append_sls2 rfl _ _ _ rfl w1.heap.size 9 Tryz.underlying39 (by kernel_rfl) _ rfl X2 (hu1.out.alloc _) _ _ _ rfl [pv.data.toList] (SlS.textAt _ _ pv rfl) (by simp; omega) (Nat.le_trans hb4.size (by simp)) w1 (hb4.alloc hb4.size _) _ (X1 ++ [pn.data.toList]) (ho1.out.alloc _) ha1.out.symm ?_; intro v2 w5 ho2 hu2 ha2 hb5 hz5 hg5))
                go_roundw
                case rel =>
                  have hE4 := (HSE.out.alloc (.cells #[.string pn] 9)).grw HOV.out hg4.out
                  have hE5 := (hE4.alloc (.cells #[.string pv] 9)).grw HOU.out hg5.out
                  have hl4 : bd.block < (w3.alloc (.cells #[.string pn] 9)).heap.size := by simp; omega
                  have hl5 : bd.block < (w4.alloc (.cells #[.string pv] 9)).heap.size := by simp at hz4 ⊢; omega
                  exact ⟨j + 1, by omega, by go_num, by show OwnS _ _ _ _ _; rw [HF1.out]; exact hu2.out, by show OwnS _ _ _ _ _; rw [HF2.out]; exact ho2.out, ha2.out.symm, hE5, HOV.out.grw hg4.out hl4, HOU.out.grw hg5.out hl5, hb5⟩
                case measure => simp [intOf]; omega
              · rw [if_neg hpe, List.append_nil] at hfm
                have HF := Lib.hid hfm
                have hpe' : (pe == 0) = false := by simpa using hpe
                clear hfm hXl
                go_wp2_with fail
                refine (CP.out _).mono ?_
                rintro e w3 ⟨rfl, hb3⟩
                go_wp2_with fail
                go_roundw
                case rel => exact ⟨j + 1, by omega, by go_num, by show OwnS _ _ _ _ _; rw [HF.out]; exact hown.out.below hb3, by show OwnS _ _ _ _ _; rw [HF.out]; exact hun.out.below hb3, hap, HS2.out.below hb3, HOV, HOU, hb21.trans (hb3.mono hsB)⟩
                case measure => simp [intOf]; omega
            · have HT : Hid (dvs (V.take (k + 1)) = P ++ (E.take j).filterMap dvO) := by show _ = _; rw [HSN.out, List.take_of_length_le (by omega)]
              have hj1 : ¬ (j : Int) < (E.length : Int) := by omega
              go_wp2_with fail
              go_roundw
              case rel => exact ⟨k + 1, _, by omega, by go_num, rfl, by show OwnS _ _ _ _ _; rw [HT.out]; exact hown.out, by show OwnS _ _ _ _ _; rw [HT.out]; exact hun.out, hap, by show _ = _; rw [HFS.out]; rfl, hb21⟩
              case measure => simp [intOf]; omega
    · rw [List.take_of_length_le (show V.length ≤ k by omega)] at hown hun hfn
      obtain ⟨A1, c1, e1, hA1, _⟩ := hown.out.sls
      obtain ⟨A2, c2, e2, hA2, _⟩ := hun.out.sls
      rw [List.length_map] at e1 e2 hA1 hA2
      have hb := below_then HB.out hbel1
      have hi1 : ¬ (k : Int) < (V.length : Int) := by omega
      have HA1 := Lib.hid hA1
      have HA2 := Lib.hid hA2
      have HFN := Lib.hid hfn.out
      subst e1 e2
      clear hown hun hfn hA1 hA2 hap
      go_wp2_with fail
      go_ret3
      exact ⟨A1, c1, A2, c2, by rw [HFN.out]; rfl, HA1.out, HA2.out, hb⟩

end Go.Proofs.YtmpiahahhkimkaaGreatDoor
end

/-
  Contracts of the reference's Parse, Asked (layer 13).
-/
section
namespace Go.Proofs.YtmpiahahhkimkaaGreatDoor
open Go.RowKit

theorem has_map (D : List Dv) (nm : ByteArray) : hsN (D.map (·.1)) nm = hasD D nm := by
  unfold hsN hasD
  rw [List.any_map]
  rfl
theorem unqR_le : ∀ (l : List UInt8) (q : Nat) (t r : List UInt8), unqR q t l = some r → r.length ≤ t.length + l.length
  | [], q, t, r, h => by simp [unqR] at h
  | c :: l, q, t, r, h => by
    unfold unqR at h
    rw [List.length_cons]
    split at h
    · split at h
      · have e : t = r := by simpa using h
        rw [e]; omega
      · cases h
    · split at h
      · have := unqR_le l _ _ _ h
        omega
      · have := unqR_le l _ _ _ h
        rw [List.length_append, List.length_singleton] at this
        omega
theorem unqO_le (l : List UInt8) : (unqO l).length ≤ l.length := by
  unfold unqO
  cases l with
  | nil => exact Nat.zero_le _
  | cons c l =>
    cases e : unqL (c :: l) with
    | none => exact Nat.zero_le _
    | some r =>
      show r.length ≤ _
      have e2 : (if c = 34 then unqR 1 [] l else none) = some r := e
      by_cases hc : c = 34
      · rw [if_pos hc] at e2
        have := unqR_le _ _ _ _ e2
        simp only [List.length_nil] at this
        rw [List.length_cons]; omega
      · rw [if_neg hc] at e2; cases e2
theorem par_sz (s : ByteArray) : (parV s).size ≤ s.size := by
  unfold parV
  split
  · unfold valO
    split
    · exact flZ_le s 61
    · rw [mkS_size]
      exact Nat.le_trans (unqO_le _) (by rw [← Lib.size_eq]; exact flZ_le s 61)
  · exact Nat.zero_le _
theorem dvs_vals {V : List (List UInt8)} (h : ∀ v ∈ V, v.length ≤ 10000) : ∀ d ∈ dvs V, d.2.length ≤ 1000000 := fun d hd => by
  unfold dvs at hd
  obtain ⟨v, hv, hd2⟩ := List.mem_flatMap.1 hd
  unfold dvV at hd2
  obtain ⟨e, he, hd3⟩ := List.mem_filterMap.1 hd2
  have hz := (spl_sz (h v hv)).2 e he
  unfold dvO at hd3
  split at hd3
  · simp only [Option.some.injEq] at hd3
    rw [← hd3]
    show (parV (mkS e)).data.toList.length ≤ _
    rw [← Lib.size_eq]
    have h1 : (parV (mkS e)).size ≤ (mkS e).size := par_sz _
    rw [mkS_size] at h1
    omega
  · cases hd3

theorem all_small {L : List Fd} {nm : ByteArray} (hB : ∀ x ∈ L, x.2.size ≤ 10000) : ∀ v ∈ fdAll L nm, v.length ≤ 10000 := fun x hx => by
  unfold fdAll at hx
  obtain ⟨y, hy, rfl⟩ := List.mem_map.1 hx
  rw [← Lib.size_eq]
  exact hB y (List.mem_filter.1 hy).1
theorem all_many {L : List Fd} {nm : ByteArray} {n : Nat} (h : L.length ≤ n) : (fdAll L nm).length ≤ n := by
  unfold fdAll
  rw [List.length_map]
  exact Nat.le_trans (List.length_filter_le _ _) h

set_option maxHeartbeats 16000000 in
set_option maxRecDepth 100000 in
theorem r_ctlParse (A : Option Addr) (n c : Nat) (L : List Fd) (w : World) (h : SlF w A n c L) (hn : n ≤ 1000) (hB : ∀ x ∈ L, x.2.size ≤ 10000) :
    Calls Tryz.prog 7 #[.slice A n c] w fun e w' => e = .returned (.agg (ctC (ctP L))) ∧ Below w.heap.size w w' := by
  have C1 := Lib.hid (fun W (hW : Below w.heap.size w W) => r_elements A n c L W (h.below hW) hn hB)
  have hdv := dvs_vals (all_small (nm := ccS) hB)
  have hlen : (dvs (fdAll L ccS)).length ≤ 1000000000 := by
    refine Nat.le_trans (dvs_len _ (all_small hB)) ?_
    have := all_many (L := L) (nm := ccS) (n := 1000) (by rw [h.len]; exact hn)
    omega
  have hD : ctP L = ctD (dvs (fdAll L ccS)) (fnV (fdAll L ccS)) := rfl
  rw [hD]
  clear hD
  generalize dvs (fdAll L ccS) = D at *
  generalize fnV (fdAll L ccS) = fine at *
  have Cns := Lib.hid (fun W A c (hW : SlS W A D.length c (D.map (·.1))) => r_has13 A D.length c (D.map (·.1)) nsS W hW hlen)
  have Cnsv := Lib.hid (has_map D nsS)
  have Cnc := Lib.hid (fun W A c (hW : SlS W A D.length c (D.map (·.1))) => r_has13 A D.length c (D.map (·.1)) ncS W hW hlen)
  have Cncv := Lib.hid (has_map D ncS)
  have Cpv := Lib.hid (fun W A c (hW : SlS W A D.length c (D.map (·.1))) => r_has13 A D.length c (D.map (·.1)) pvS W hW hlen)
  have Cpvv := Lib.hid (has_map D pvS)
  have Cpu := Lib.hid (fun W A c (hW : SlS W A D.length c (D.map (·.1))) => r_has13 A D.length c (D.map (·.1)) puS W hW hlen)
  have Cpuv := Lib.hid (has_map D puS)
  have Cmr := Lib.hid (fun W A c (hW : SlS W A D.length c (D.map (·.1))) => r_has13 A D.length c (D.map (·.1)) mrS W hW hlen)
  have Cmrv := Lib.hid (has_map D mrS)
  have Cxr := Lib.hid (fun W A c (hW : SlS W A D.length c (D.map (·.1))) => r_has13 A D.length c (D.map (·.1)) xrS W hW hlen)
  have Cxrv := Lib.hid (has_map D xrS)
  have Coi := Lib.hid (fun W A c (hW : SlS W A D.length c (D.map (·.1))) => r_has13 A D.length c (D.map (·.1)) oiS W hW hlen)
  have Coiv := Lib.hid (has_map D oiS)
  have Cma := Lib.hid (fun W A B c d (hW : SlS W A D.length c (D.map (·.1))) (hW2 : SlS W B D.length d (D.map (·.2))) => r_lstS A B D.length c d D maS W hW hW2 hlen hdv)
  have Csm := Lib.hid (fun W A B c d (hW : SlS W A D.length c (D.map (·.1))) (hW2 : SlS W B D.length d (D.map (·.2))) => r_lstS A B D.length c d D smS W hW hW2 hlen hdv)
  have Cmf := Lib.hid (fun W A B c d (hW : SlS W A D.length c (D.map (·.1))) (hW2 : SlS W B D.length d (D.map (·.2))) => r_grtS A B D.length c d D mfS W hW hW2 hlen hdv)
  have hctd : ctC (ctD D fine) = #[.bool (!fine || hasD D nsS), .bool (!fine || hasD D ncS), .bool (hasD D pvS), .bool (hasD D puS), .bool (hasD D mrS || hasD D xrS), .bool (hasD D oiS), .int .i64 (D.foldl (lstS maS) (-1)), .int .i64 (D.foldl (lstS smS) (-1)), .int .i64 (D.foldl (grtS mfS) (-1))] := rfl
  rw [hctd]
  clear hctd h hB hn hlen hdv
  generalize hsN (D.map (·.1)) nsS = hnsS at *
  generalize hsN (D.map (·.1)) ncS = hncS at *
  generalize hsN (D.map (·.1)) pvS = hpvS at *
  generalize hsN (D.map (·.1)) puS = hpuS at *
  generalize hsN (D.map (·.1)) mrS = hmrS at *
  generalize hsN (D.map (·.1)) xrS = hxrS at *
  generalize hsN (D.map (·.1)) oiS = hoiS at *
  generalize hasD D nsS = ns at *
  generalize hasD D ncS = nc at *
  generalize hasD D pvS = pv at *
  generalize hasD D puS = pu at *
  generalize hasD D mrS = mr at *
  generalize hasD D xrS = xr at *
  generalize hasD D oiS = oi at *
  generalize hma : D.foldl (lstS maS) (-1) = ma at *
  generalize hsm : D.foldl (lstS smS) (-1) = sm at *
  generalize hmf : D.foldl (grtS mfS) (-1) = mf at *
  unfold nsS ncS pvS puS mrS xrS oiS maS smS mfS at *
  have HZ : Hid ((w.alloc (.cells #[.bool false, .bool false, .bool false, .bool false, .bool false, .bool false, .int .i64 0, .int .i64 0, .int .i64 0] 26)).heap[w.heap.size]? = some (.cells #[.bool false, .bool false, .bool false, .bool false, .bool false, .bool false, .int .i64 0, .int .i64 0, .int .i64 0] 26 (0, 0))) := heap_alloc_new w _
  have HB : Hid (Below w.heap.size w (w.alloc (.cells #[.bool false, .bool false, .bool false, .bool false, .bool false, .bool false, .int .i64 0, .int .i64 0, .int .i64 0] 26))) := (Below.refl _ _).alloc (Nat.le_refl _) _
  cases fine with
  | true =>
    cases mr with
    | true =>
      have HR : Hid ((#[.bool (!true || ns), .bool (!true || nc), .bool pv, .bool pu, .bool (true || xr), .bool oi, .int .i64 ma, .int .i64 sm, .int .i64 mf] : Array Value) = #[.bool ns, .bool nc, .bool pv, .bool pu, .bool true, .bool oi, .int .i64 ma, .int .i64 sm, .int .i64 mf]) := rfl
      go_enter Tryz.func7, Tryz.ntmps7
      go_wp2_with fail
      refine (C1.out _ HB.out).mono ?_
      rintro e w1 ⟨A1, c1, A2, c2, rfl, hA1, hA2, hb⟩
      have HZ1 := Lib.hid (zero_still hb HZ.out)
      have HB1 := Lib.hid (below_then HB.out hb)
      have HA := Lib.hid hA1
      have HB2 := Lib.hid hA2
      clear hb hA1 hA2
      go_wp2_with fail
      refine (Cns.out _ _ _ HA.out).mono ?_
      rintro e w2 ⟨he, rfl⟩
      rw [Cnsv.out] at he
      subst he
      go_wp2_with fail
      refine (Cnc.out _ _ _ HA.out).mono ?_
      rintro e w2 ⟨he, rfl⟩
      rw [Cncv.out] at he
      subst he
      go_wp2_with fail
      refine (Cpv.out _ _ _ HA.out).mono ?_
      rintro e w2 ⟨he, rfl⟩
      rw [Cpvv.out] at he
      subst he
      go_wp2_with fail
      refine (Cpu.out _ _ _ HA.out).mono ?_
      rintro e w2 ⟨he, rfl⟩
      rw [Cpuv.out] at he
      subst he
      go_wp2_with fail
      refine (Cmr.out _ _ _ HA.out).mono ?_
      rintro e w2 ⟨he, rfl⟩
      rw [Cmrv.out] at he
      subst he
      go_wp2_with fail
      refine (Coi.out _ _ _ HA.out).mono ?_
      rintro e w2 ⟨he, rfl⟩
      rw [Coiv.out] at he
      subst he
      go_wp2_with fail
      refine (Cma.out _ _ _ _ _ HA.out HB2.out).mono ?_
      rintro e w2 ⟨rfl, rfl⟩
      go_wp2_with fail
      refine (Csm.out _ _ _ _ _ HA.out HB2.out).mono ?_
      rintro e w2 ⟨rfl, rfl⟩
      go_wp2_with fail
      refine (Cmf.out _ _ _ _ _ HA.out HB2.out).mono ?_
      rintro e w2 ⟨rfl, rfl⟩
      go_wp2_with (refine wpList_store_row rfl _ _ _ rfl w.heap.size #[.bool ns, .bool nc, .bool pv, .bool pu, .bool true, .bool oi, .int .i64 ma, .int .i64 sm, .int .i64 mf] rfl rfl 26 _ HZ1.out (by kernel_rfl) rfl (by simp [Value.oneCell']) ?_)
      refine bodyPost_ret (results_cell_row rfl _ _ w.heap.size 26 #[.bool ns, .bool nc, .bool pv, .bool pu, .bool true, .bool oi, .int .i64 ma, .int .i64 sm, .int .i64 mf] (0, 0) _ rfl (setRow_heap _ _ _ _ _ _ HZ1.out) Tryz.underlying26 rfl (by kernel_rfl)) rfl ?_
      exact ⟨by rw [HR.out], below_setRow HB1.out (Nat.le_refl _) _⟩
    | false =>
      have HR : Hid ((#[.bool (!true || ns), .bool (!true || nc), .bool pv, .bool pu, .bool (false || xr), .bool oi, .int .i64 ma, .int .i64 sm, .int .i64 mf] : Array Value) = #[.bool ns, .bool nc, .bool pv, .bool pu, .bool xr, .bool oi, .int .i64 ma, .int .i64 sm, .int .i64 mf]) := rfl
      go_enter Tryz.func7, Tryz.ntmps7
      go_wp2_with fail
      refine (C1.out _ HB.out).mono ?_
      rintro e w1 ⟨A1, c1, A2, c2, rfl, hA1, hA2, hb⟩
      have HZ1 := Lib.hid (zero_still hb HZ.out)
      have HB1 := Lib.hid (below_then HB.out hb)
      have HA := Lib.hid hA1
      have HB2 := Lib.hid hA2
      clear hb hA1 hA2
      go_wp2_with fail
      refine (Cns.out _ _ _ HA.out).mono ?_
      rintro e w2 ⟨he, rfl⟩
      rw [Cnsv.out] at he
      subst he
      go_wp2_with fail
      refine (Cnc.out _ _ _ HA.out).mono ?_
      rintro e w2 ⟨he, rfl⟩
      rw [Cncv.out] at he
      subst he
      go_wp2_with fail
      refine (Cpv.out _ _ _ HA.out).mono ?_
      rintro e w2 ⟨he, rfl⟩
      rw [Cpvv.out] at he
      subst he
      go_wp2_with fail
      refine (Cpu.out _ _ _ HA.out).mono ?_
      rintro e w2 ⟨he, rfl⟩
      rw [Cpuv.out] at he
      subst he
      go_wp2_with fail
      refine (Cmr.out _ _ _ HA.out).mono ?_
      rintro e w2 ⟨he, rfl⟩
      rw [Cmrv.out] at he
      subst he
      go_wp2_with fail
      refine (Cxr.out _ _ _ HA.out).mono ?_
      rintro e w2 ⟨he, rfl⟩
      rw [Cxrv.out] at he
      subst he
      go_wp2_with fail
      refine (Coi.out _ _ _ HA.out).mono ?_
      rintro e w2 ⟨he, rfl⟩
      rw [Coiv.out] at he
      subst he
      go_wp2_with fail
      refine (Cma.out _ _ _ _ _ HA.out HB2.out).mono ?_
      rintro e w2 ⟨rfl, rfl⟩
      go_wp2_with fail
      refine (Csm.out _ _ _ _ _ HA.out HB2.out).mono ?_
      rintro e w2 ⟨rfl, rfl⟩
      go_wp2_with fail
      refine (Cmf.out _ _ _ _ _ HA.out HB2.out).mono ?_
      rintro e w2 ⟨rfl, rfl⟩
      go_wp2_with (refine wpList_store_row rfl _ _ _ rfl w.heap.size #[.bool ns, .bool nc, .bool pv, .bool pu, .bool xr, .bool oi, .int .i64 ma, .int .i64 sm, .int .i64 mf] rfl rfl 26 _ HZ1.out (by kernel_rfl) rfl (by simp [Value.oneCell']) ?_)
      refine bodyPost_ret (results_cell_row rfl _ _ w.heap.size 26 #[.bool ns, .bool nc, .bool pv, .bool pu, .bool xr, .bool oi, .int .i64 ma, .int .i64 sm, .int .i64 mf] (0, 0) _ rfl (setRow_heap _ _ _ _ _ _ HZ1.out) Tryz.underlying26 rfl (by kernel_rfl)) rfl ?_
      exact ⟨by rw [HR.out], below_setRow HB1.out (Nat.le_refl _) _⟩
  | false =>
    cases mr with
    | true =>
      have HR : Hid ((#[.bool (!false || ns), .bool (!false || nc), .bool pv, .bool pu, .bool (true || xr), .bool oi, .int .i64 ma, .int .i64 sm, .int .i64 mf] : Array Value) = #[.bool true, .bool true, .bool pv, .bool pu, .bool true, .bool oi, .int .i64 ma, .int .i64 sm, .int .i64 mf]) := rfl
      go_enter Tryz.func7, Tryz.ntmps7
      go_wp2_with fail
      refine (C1.out _ HB.out).mono ?_
      rintro e w1 ⟨A1, c1, A2, c2, rfl, hA1, hA2, hb⟩
      have HZ1 := Lib.hid (zero_still hb HZ.out)
      have HB1 := Lib.hid (below_then HB.out hb)
      have HA := Lib.hid hA1
      have HB2 := Lib.hid hA2
      clear hb hA1 hA2
      go_wp2_with fail
      refine (Cpv.out _ _ _ HA.out).mono ?_
      rintro e w2 ⟨he, rfl⟩
      rw [Cpvv.out] at he
      subst he
      go_wp2_with fail
      refine (Cpu.out _ _ _ HA.out).mono ?_
      rintro e w2 ⟨he, rfl⟩
      rw [Cpuv.out] at he
      subst he
      go_wp2_with fail
      refine (Cmr.out _ _ _ HA.out).mono ?_
      rintro e w2 ⟨he, rfl⟩
      rw [Cmrv.out] at he
      subst he
      go_wp2_with fail
      refine (Coi.out _ _ _ HA.out).mono ?_
      rintro e w2 ⟨he, rfl⟩
      rw [Coiv.out] at he
      subst he
      go_wp2_with fail
      refine (Cma.out _ _ _ _ _ HA.out HB2.out).mono ?_
      rintro e w2 ⟨rfl, rfl⟩
      go_wp2_with fail
      refine (Csm.out _ _ _ _ _ HA.out HB2.out).mono ?_
      rintro e w2 ⟨rfl, rfl⟩
      go_wp2_with fail
      refine (Cmf.out _ _ _ _ _ HA.out HB2.out).mono ?_
      rintro e w2 ⟨rfl, rfl⟩
      go_wp2_with (refine wpList_store_row rfl _ _ _ rfl w.heap.size #[.bool true, .bool true, .bool pv, .bool pu, .bool true, .bool oi, .int .i64 ma, .int .i64 sm, .int .i64 mf] rfl rfl 26 _ HZ1.out (by kernel_rfl) rfl (by simp [Value.oneCell']) ?_)
      refine bodyPost_ret (results_cell_row rfl _ _ w.heap.size 26 #[.bool true, .bool true, .bool pv, .bool pu, .bool true, .bool oi, .int .i64 ma, .int .i64 sm, .int .i64 mf] (0, 0) _ rfl (setRow_heap _ _ _ _ _ _ HZ1.out) Tryz.underlying26 rfl (by kernel_rfl)) rfl ?_
      exact ⟨by rw [HR.out], below_setRow HB1.out (Nat.le_refl _) _⟩
    | false =>
      have HR : Hid ((#[.bool (!false || ns), .bool (!false || nc), .bool pv, .bool pu, .bool (false || xr), .bool oi, .int .i64 ma, .int .i64 sm, .int .i64 mf] : Array Value) = #[.bool true, .bool true, .bool pv, .bool pu, .bool xr, .bool oi, .int .i64 ma, .int .i64 sm, .int .i64 mf]) := rfl
      go_enter Tryz.func7, Tryz.ntmps7
      go_wp2_with fail
      refine (C1.out _ HB.out).mono ?_
      rintro e w1 ⟨A1, c1, A2, c2, rfl, hA1, hA2, hb⟩
      have HZ1 := Lib.hid (zero_still hb HZ.out)
      have HB1 := Lib.hid (below_then HB.out hb)
      have HA := Lib.hid hA1
      have HB2 := Lib.hid hA2
      clear hb hA1 hA2
      go_wp2_with fail
      refine (Cpv.out _ _ _ HA.out).mono ?_
      rintro e w2 ⟨he, rfl⟩
      rw [Cpvv.out] at he
      subst he
      go_wp2_with fail
      refine (Cpu.out _ _ _ HA.out).mono ?_
      rintro e w2 ⟨he, rfl⟩
      rw [Cpuv.out] at he
      subst he
      go_wp2_with fail
      refine (Cmr.out _ _ _ HA.out).mono ?_
      rintro e w2 ⟨he, rfl⟩
      rw [Cmrv.out] at he
      subst he
      go_wp2_with fail
      refine (Cxr.out _ _ _ HA.out).mono ?_
      rintro e w2 ⟨he, rfl⟩
      rw [Cxrv.out] at he
      subst he
      go_wp2_with fail
      refine (Coi.out _ _ _ HA.out).mono ?_
      rintro e w2 ⟨he, rfl⟩
      rw [Coiv.out] at he
      subst he
      go_wp2_with fail
      refine (Cma.out _ _ _ _ _ HA.out HB2.out).mono ?_
      rintro e w2 ⟨rfl, rfl⟩
      go_wp2_with fail
      refine (Csm.out _ _ _ _ _ HA.out HB2.out).mono ?_
      rintro e w2 ⟨rfl, rfl⟩
      go_wp2_with fail
      refine (Cmf.out _ _ _ _ _ HA.out HB2.out).mono ?_
      rintro e w2 ⟨rfl, rfl⟩
      go_wp2_with (refine wpList_store_row rfl _ _ _ rfl w.heap.size #[.bool true, .bool true, .bool pv, .bool pu, .bool xr, .bool oi, .int .i64 ma, .int .i64 sm, .int .i64 mf] rfl rfl 26 _ HZ1.out (by kernel_rfl) rfl (by simp [Value.oneCell']) ?_)
      refine bodyPost_ret (results_cell_row rfl _ _ w.heap.size 26 #[.bool true, .bool true, .bool pv, .bool pu, .bool xr, .bool oi, .int .i64 ma, .int .i64 sm, .int .i64 mf] (0, 0) _ rfl (setRow_heap _ _ _ _ _ _ HZ1.out) Tryz.underlying26 rfl (by kernel_rfl)) rfl ?_
      exact ⟨by rw [HR.out], below_setRow HB1.out (Nat.le_refl _) _⟩

theorem ct_set {W : World} {g t : Nat} {c0 c1 c2 c3 c4 c5 c6 c7 c8 b : Value} (h : W.heap[g]? = some (.cells #[c0, c1, c2, c3, c4, c5, c6, c7, c8] t (0, 0))) : (W.setCell ⟨g, 1, none⟩ b).heap[g]? = some (.cells #[c0, b, c2, c3, c4, c5, c6, c7, c8] t (0, 0)) := by
  simp [World.setCell, Array.getElem?_modify, h]
theorem ct_set_other {W : World} {g k : Nat} {b : Value} {o : Obj} (hk : k ≠ g) (h : W.heap[k]? = some o) : (W.setCell ⟨g, 1, none⟩ b).heap[k]? = some o := by
  simp [World.setCell, Array.getElem?_modify, h, Ne.symm hk]
theorem prS_le : prS.size ≤ maxLen := by decide
theorem ncS_le : ncS.size ≤ maxLen := by decide
set_option maxHeartbeats 16000000 in
set_option maxRecDepth 100000 in
theorem r_ctlAsked (A : Option Addr) (n c : Nat) (L : List Fd) (w : World) (h : SlF w A n c L) (hn : n ≤ 1000) (hB : ∀ x ∈ L, x.2.size ≤ 10000) :
    Calls Tryz.prog 9 #[.slice A n c] w fun e w' => e = .returned (.agg (ctC (ctA L))) ∧ Below w.heap.size w w' := by
  have C1 := Lib.hid (fun W (hW : Below w.heap.size w W) => r_ctlParse A n c L W (h.below hW) hn hB)
  have C2 := Lib.hid (fun W (hW : Below w.heap.size w W) => rf_all A n c L ccS W (h.below hW) (by omega) ccS_le)
  have C3 := Lib.hid (fun W (hW : Below w.heap.size w W) => rf_has A n c L prS ncS W (h.below hW) (by omega) prS_le ncS_le hB)
  have hD : ctA L = if (fdAll L ccS).length = 0 ∧ fdHas L prS ncS = true then { ctP L with nc := true } else ctP L := rfl
  generalize ctA L = R at *
  generalize ctP L = c0 at *
  generalize fdAll L ccS = V at *
  generalize fdHas L prS ncS = hs at *
  unfold ccS at C2
  unfold prS ncS at C3
  obtain ⟨ns, nc, pv, pu, mc, oi, ma, sh, mf⟩ := c0
  have HZ : Hid ((w.alloc (.cells #[.bool false, .bool false, .bool false, .bool false, .bool false, .bool false, .int .i64 0, .int .i64 0, .int .i64 0] 26)).heap[w.heap.size]? = some (.cells #[.bool false, .bool false, .bool false, .bool false, .bool false, .bool false, .int .i64 0, .int .i64 0, .int .i64 0] 26 (0, 0))) := heap_alloc_new w _
  have HB : Hid (Below w.heap.size w (w.alloc (.cells #[.bool false, .bool false, .bool false, .bool false, .bool false, .bool false, .int .i64 0, .int .i64 0, .int .i64 0] 26))) := (Below.refl _ _).alloc (Nat.le_refl _) _
  unfold ctC at C1
  simp only at C1 hD
  clear h hn hB
  by_cases hV : V.length = 0
  · have hV1 : ((V.length : Int) == 0) = true := by rw [hV]; rfl
    cases hs with
    | true =>
      rw [if_pos ⟨hV, rfl⟩] at hD
      have HR := Lib.hid hD
      clear hD
      go_enter Tryz.func9, Tryz.ntmps9
      go_wp2_with fail
      refine (C1.out _ HB.out).mono ?_
      rintro e w1 ⟨rfl, hb⟩
      have HZ1 := Lib.hid (zero_more (o' := .cells #[.bool ns, .bool nc, .bool pv, .bool pu, .bool mc, .bool oi, .int .i64 ma, .int .i64 sh, .int .i64 mf] 26) (zero_still hb HZ.out))
      have hb1 := below_then HB.out hb
      have HB1 := Lib.hid (hb1.alloc hb1.size (.cells #[.bool ns, .bool nc, .bool pv, .bool pu, .bool mc, .bool oi, .int .i64 ma, .int .i64 sh, .int .i64 mf] 26))
      have HO1 := Lib.hid (heap_alloc_new w1 (.cells #[.bool ns, .bool nc, .bool pv, .bool pu, .bool mc, .bool oi, .int .i64 ma, .int .i64 sh, .int .i64 mf] 26))
      have HLT : Hid (w.heap.size ≠ w1.heap.size) := by
        have := (Array.getElem?_eq_some_iff.1 (zero_still hb HZ.out)).1
        exact Nat.ne_of_lt this
      clear hb hb1
      go_wp2_with fail
      refine (C2.out _ HB1.out).mono ?_
      rintro e w2 ⟨A2, c2, rfl, _, _, hb⟩
      have HZ2 := Lib.hid (zero_still hb HZ1.out)
      have HO2 := Lib.hid (zero_still hb HO1.out)
      have HB2 := Lib.hid (below_then HB1.out hb)
      clear hb
      have HLE : Hid (w.heap.size ≤ w1.heap.size) := by have := (Array.getElem?_eq_some_iff.1 HZ1.out).1; have h2 := HLT.out; simp at this; show _ ≤ _; omega
      go_wp2_with fail
      refine (C3.out _ HB2.out).mono ?_
      rintro e w3 ⟨rfl, hb⟩
      have HZ2 := Lib.hid (zero_still hb HZ2.out)
      have HO2 := Lib.hid (zero_still hb HO2.out)
      have HB2 := Lib.hid (below_then HB2.out hb)
      clear hb
      have hcl : w3.cell? ⟨w1.heap.size, 1, none⟩ = some (.bool nc) := by rw [cell_of_row _ _ _ _ _ _ HO2.out]; rfl
      have hfz : w3.frozen? ⟨w1.heap.size, 1, none⟩ = false := by have := HO2.out; simp [World.frozen?, this]
      have HO3 := Lib.hid (ct_set (b := .bool true) HO2.out)
      have HZ3 := Lib.hid (ct_set_other (b := .bool true) HLT.out HZ2.out)
      have HB3 := Lib.hid (HB2.out.setCell (p := ⟨w1.heap.size, 1, none⟩) HLE.out (.bool true))
      go_wp2_with (first | (refine wpList_load_row rfl _ _ rfl w1.heap.size rfl 26 #[.bool ns, .bool true, .bool pv, .bool pu, .bool mc, .bool oi, .int .i64 ma, .int .i64 sh, .int .i64 mf] (0, 0) _ HO3.out Tryz.underlying26 rfl (by kernel_rfl) ?_) | (refine wpList_store_row rfl _ _ _ rfl w.heap.size #[.bool ns, .bool true, .bool pv, .bool pu, .bool mc, .bool oi, .int .i64 ma, .int .i64 sh, .int .i64 mf] rfl rfl 26 _ HZ3.out (by kernel_rfl) rfl (by simp [Value.oneCell']) ?_))
      refine bodyPost_ret (results_cell_row rfl _ _ w.heap.size 26 #[.bool ns, .bool true, .bool pv, .bool pu, .bool mc, .bool oi, .int .i64 ma, .int .i64 sh, .int .i64 mf] (0, 0) _ rfl (setRow_heap _ _ _ _ _ _ HZ3.out) Tryz.underlying26 rfl (by kernel_rfl)) rfl ?_
      exact ⟨by rw [HR.out]; rfl, below_setRow HB3.out (Nat.le_refl _) _⟩
    | false =>
      rw [if_neg (by simp)] at hD
      have HR := Lib.hid hD
      clear hD
      go_enter Tryz.func9, Tryz.ntmps9
      go_wp2_with fail
      refine (C1.out _ HB.out).mono ?_
      rintro e w1 ⟨rfl, hb⟩
      have HZ1 := Lib.hid (zero_more (o' := .cells #[.bool ns, .bool nc, .bool pv, .bool pu, .bool mc, .bool oi, .int .i64 ma, .int .i64 sh, .int .i64 mf] 26) (zero_still hb HZ.out))
      have hb1 := below_then HB.out hb
      have HB1 := Lib.hid (hb1.alloc hb1.size (.cells #[.bool ns, .bool nc, .bool pv, .bool pu, .bool mc, .bool oi, .int .i64 ma, .int .i64 sh, .int .i64 mf] 26))
      have HO1 := Lib.hid (heap_alloc_new w1 (.cells #[.bool ns, .bool nc, .bool pv, .bool pu, .bool mc, .bool oi, .int .i64 ma, .int .i64 sh, .int .i64 mf] 26))
      have HLT : Hid (w.heap.size ≠ w1.heap.size) := by
        have := (Array.getElem?_eq_some_iff.1 (zero_still hb HZ.out)).1
        exact Nat.ne_of_lt this
      clear hb hb1
      go_wp2_with fail
      refine (C2.out _ HB1.out).mono ?_
      rintro e w2 ⟨A2, c2, rfl, _, _, hb⟩
      have HZ2 := Lib.hid (zero_still hb HZ1.out)
      have HO2 := Lib.hid (zero_still hb HO1.out)
      have HB2 := Lib.hid (below_then HB1.out hb)
      clear hb
      go_wp2_with fail
      refine (C3.out _ HB2.out).mono ?_
      rintro e w3 ⟨rfl, hb⟩
      have HZ2 := Lib.hid (zero_still hb HZ2.out)
      have HO2 := Lib.hid (zero_still hb HO2.out)
      have HB2 := Lib.hid (below_then HB2.out hb)
      clear hb
      go_wp2_with (first | (refine wpList_load_row rfl _ _ rfl w1.heap.size rfl 26 #[.bool ns, .bool nc, .bool pv, .bool pu, .bool mc, .bool oi, .int .i64 ma, .int .i64 sh, .int .i64 mf] (0, 0) _ HO2.out Tryz.underlying26 rfl (by kernel_rfl) ?_) | (refine wpList_store_row rfl _ _ _ rfl w.heap.size #[.bool ns, .bool nc, .bool pv, .bool pu, .bool mc, .bool oi, .int .i64 ma, .int .i64 sh, .int .i64 mf] rfl rfl 26 _ HZ2.out (by kernel_rfl) rfl (by simp [Value.oneCell']) ?_))
      refine bodyPost_ret (results_cell_row rfl _ _ w.heap.size 26 #[.bool ns, .bool nc, .bool pv, .bool pu, .bool mc, .bool oi, .int .i64 ma, .int .i64 sh, .int .i64 mf] (0, 0) _ rfl (setRow_heap _ _ _ _ _ _ HZ2.out) Tryz.underlying26 rfl (by kernel_rfl)) rfl ?_
      exact ⟨by rw [HR.out]; rfl, below_setRow HB2.out (Nat.le_refl _) _⟩
  · have hV1 : ((V.length : Int) == 0) = false := by rw [beq_eq_false_iff_ne]; omega
    rw [if_neg (fun h => hV h.1)] at hD
    have HR := Lib.hid hD
    clear hD
    go_enter Tryz.func9, Tryz.ntmps9
    go_wp2_with fail
    refine (C1.out _ HB.out).mono ?_
    rintro e w1 ⟨rfl, hb⟩
    have HZ1 := Lib.hid (zero_more (o' := .cells #[.bool ns, .bool nc, .bool pv, .bool pu, .bool mc, .bool oi, .int .i64 ma, .int .i64 sh, .int .i64 mf] 26) (zero_still hb HZ.out))
    have hb1 := below_then HB.out hb
    have HB1 := Lib.hid (hb1.alloc hb1.size (.cells #[.bool ns, .bool nc, .bool pv, .bool pu, .bool mc, .bool oi, .int .i64 ma, .int .i64 sh, .int .i64 mf] 26))
    have HO1 := Lib.hid (heap_alloc_new w1 (.cells #[.bool ns, .bool nc, .bool pv, .bool pu, .bool mc, .bool oi, .int .i64 ma, .int .i64 sh, .int .i64 mf] 26))
    have HLT : Hid (w.heap.size ≠ w1.heap.size) := by
      have := (Array.getElem?_eq_some_iff.1 (zero_still hb HZ.out)).1
      exact Nat.ne_of_lt this
    clear hb hb1
    go_wp2_with fail
    refine (C2.out _ HB1.out).mono ?_
    rintro e w2 ⟨A2, c2, rfl, _, _, hb⟩
    have HZ2 := Lib.hid (zero_still hb HZ1.out)
    have HO2 := Lib.hid (zero_still hb HO1.out)
    have HB2 := Lib.hid (below_then HB1.out hb)
    clear hb
    go_wp2_with (first | (refine wpList_load_row rfl _ _ rfl w1.heap.size rfl 26 #[.bool ns, .bool nc, .bool pv, .bool pu, .bool mc, .bool oi, .int .i64 ma, .int .i64 sh, .int .i64 mf] (0, 0) _ HO2.out Tryz.underlying26 rfl (by kernel_rfl) ?_) | (refine wpList_store_row rfl _ _ _ rfl w.heap.size #[.bool ns, .bool nc, .bool pv, .bool pu, .bool mc, .bool oi, .int .i64 ma, .int .i64 sh, .int .i64 mf] rfl rfl 26 _ HZ2.out (by kernel_rfl) rfl (by simp [Value.oneCell']) ?_))
    refine bodyPost_ret (results_cell_row rfl _ _ w.heap.size 26 #[.bool ns, .bool nc, .bool pv, .bool pu, .bool mc, .bool oi, .int .i64 ma, .int .i64 sh, .int .i64 mf] (0, 0) _ rfl (setRow_heap _ _ _ _ _ _ HZ2.out) Tryz.underlying26 rfl (by kernel_rfl)) rfl ?_
    exact ⟨by rw [HR.out]; rfl, below_setRow HB2.out (Nat.le_refl _) _⟩

end Go.Proofs.YtmpiahahhkimkaaGreatDoor
end

/-
  Contract of the reference's Print (layer 13).
-/
section
namespace Go.Proofs.YtmpiahahhkimkaaGreatDoor
open Go.RowKit

/-- 'append(out, xs...)' on strings at a step of a region that draws its order: out the call's own, xs not nil. -/
theorem step_append_sls {P : Program} {ops : Array Oper} {o : Oper} {a : Act} {w : World} {K : Act → World → Prop} {Q : Exit → Act → World → Prop} {E : Prop} (hgd : o.guard = none) (s x : Operand) (t : TypeId)
    (ho : o.op = .call { callee := .builtin .append, args := #[s, x], argTypes := #[t, t] }) (base e : Nat) (ht : P.underlying t = some (.slice e))
    (hI : (P.info? e).map (fun i => (i.zero, i.size, i.bytes)) = some (some (.string ByteArray.empty), 1, 16)) (v : Value) (hs : a.eval s = v) (X : List (List UInt8)) (hown : OwnS w base e v X)
    (ad : Addr) (m c : Nat) (hx : a.eval x = .slice (some ad) m c) (Y : List (List UInt8)) (hY : SlS w (some ad) m c Y) (hm : 0 < m) (hlen : X.length + Y.length ≤ 1000000000) (hbase : base ≤ w.heap.size) (w0 : World) (hb : Below base w0 w)
    (h : ∀ v' w', Hid (OwnS w' base e v' (X ++ Y)) → Below base w0 w' → w.heap.size ≤ w'.heap.size → Hid (Grw w w' v v') → K (a.put o.dst v') w') :
    if Region.wanted o (yielded ops a.tmps) = true then Oper.wp P o a w K Q else E := by
  obtain ⟨i0, hi, hz0, hz1, hz2⟩ := info_parts hI
  have hl := hY.len
  refine step_append_lies w hgd s x t ho base e i0 (.string ByteArray.empty) 1 16 ht hi hz0 hz1 hz2 rfl (by decide) v _ _ hs hown ad m c (Y.map stV) hx (by rw [List.length_map, hl, Nat.mul_one]) hY.news (stV_ones _) hm (by unfold maxLen; omega) (by omega) hbase _ rfl ?_
  intro g cap w' hown' hgrow hat _
  refine h _ w' ?_ (hb.grown hgrow hbase (fun k hk => (hown.lt k hk).1)) hgrow.size ⟨fun a x hc hne => hgrow.cell hc hne, by
    rcases hat with e | e
    · exact .inl e.symm
    · exact .inr (congrArg some e)⟩
  show World.ownsRow _ _ _ _ _ _ _
  rw [List.length_append, hl, List.map_append]
  exact hown'

/-- The cells of a block begin with these values. -/
def SlV (w : World) (g : Nat) (L : List Value) : Prop := ∀ (j : Nat) (x : Value), L[j]? = some x → w.cell? ⟨g, j, none⟩ = some x
theorem SlV.new (w : World) (t : TypeId) {L : List Value} {cs : Array Value} (h : ∀ (j : Nat) (x : Value), L[j]? = some x → cs[j]? = some x) : SlV (w.alloc (.cells cs t)) w.heap.size L := fun j x hx => by
  rw [cell_of_row _ _ _ _ _ _ (heap_alloc_new w _)]
  exact h j x hx
theorem SlV.alloc {w : World} {g : Nat} {L : List Value} (h : SlV w g L) (o : Obj) : SlV (w.alloc o) g L := fun j x hx => Lib.cell?_alloc_some o (h j x hx)
theorem SlV.below {w w' : World} {g : Nat} {L : List Value} (h : SlV w g L) (hb : Below w.heap.size w w') : SlV w' g L := fun j x hx => cell_kept hb (h j x hx)
theorem SlV.grw {w w' : World} {g : Nat} {L : List Value} {v v' : Value} (h : SlV w g L) (hne : v.ownBlock ≠ some g) (hg : Grw w w' v v') : SlV w' g L := fun j x hx => hg.kept _ _ (h j x hx) (fun e => hne e.symm)
theorem ne_grw {w w' : World} {g : Nat} {v v' : Value} (hne : v.ownBlock ≠ some g) (hg : Grw w w' v v') (hlt : g < w.heap.size) : v'.ownBlock ≠ some g := by
  rcases hg.at_ with e | e
  · rw [e]; exact hne
  · rw [e]; intro h; have := Option.some.inj h; omega

def ctF (c : Ctl) : List (Bool × List UInt8) := [(c.ns, nsS.data.toList), (c.nc, ncS.data.toList), (c.pv, pvS.data.toList), (c.pu, puS.data.toList), (c.mc, mrS.data.toList), (c.oi, oiS.data.toList)]
def ctM (c : Ctl) : List (Int × List UInt8) := [(c.ma, maE.data.toList), (c.sh, smE.data.toList), (c.mf, mfE.data.toList)]
def flS (p : Bool × List UInt8) : List (List UInt8) := if p.1 then [p.2] else []
def nmS (p : Int × List UInt8) : List (List UInt8) := if 0 ≤ p.1 then [p.2 ++ plainL p.1] else []
theorem ct_parts (c : Ctl) : ctL c = (ctF c).flatMap flS ++ (ctM c).flatMap nmS := by
  unfold ctL ctF ctM
  simp [flS, nmS]
theorem fm_take {α : Type} (f : α → List (List UInt8)) (L : List α) (k : Nat) (h : k < L.length) : (L.take (k + 1)).flatMap f = (L.take k).flatMap f ++ f L[k] := by
  rw [List.take_succ_eq_append_getElem h, List.flatMap_append]
  simp
theorem fl_len (L : List (Bool × List UInt8)) : (L.flatMap flS).length ≤ L.length := by
  induction L with
  | nil => exact Nat.le_refl _
  | cons p L ih =>
    rw [List.flatMap_cons, List.length_append, List.length_cons]
    have : (flS p).length ≤ 1 := by unfold flS; split <;> simp
    omega
theorem nm_len (L : List (Int × List UInt8)) : (L.flatMap nmS).length ≤ L.length := by
  induction L with
  | nil => exact Nat.le_refl _
  | cons p L ih =>
    rw [List.flatMap_cons, List.length_append, List.length_cons]
    have : (nmS p).length ≤ 1 := by unfold nmS; split <;> simp
    omega

end Go.Proofs.YtmpiahahhkimkaaGreatDoor
end

/-
  Contracts of package control's reader: a table of directives with their effects, and what an element does to what was read.
-/
section
namespace Go.Proofs.YtmpiahahhkimkaaGreatDoor
open Go.RowKit

/-- The cells of a reader. -/
def rdC (D : Nat) (c : Ctl) : Array Value := #[.slice (some ⟨D, 0, none⟩) 10 10, .bool c.ns, .bool c.nc, .bool c.pv, .bool c.pu, .bool c.mc, .bool c.oi, .int .i64 c.ma, .int .i64 c.sh, .int .i64 c.mf]
/-- The table's cells. -/
def tabC : List Value := [.string nsS, .func (.func 27) #[] #[], .string ncS, .func (.func 28) #[] #[], .string pvS, .func (.func 29) #[] #[], .string puS, .func (.func 30) #[] #[], .string mrS, .func (.func 31) #[] #[], .string xrS, .func (.func 32) #[] #[], .string oiS, .func (.func 33) #[] #[], .string maS, .func (.func 34) #[] #[], .string smS, .func (.func 36) #[] #[], .string mfS, .func (.func 37) #[] #[]]

/-- An effect. -/
def EffOk (k g : Nat) : Prop := ∀ (R D : Nat) (c : Ctl) (v : ByteArray) (w : World), w.heap[R]? = some (.cells (rdC D c) 37 (0, 0)) →
  Calls Tryz.prog g #[.pointer (some ⟨R, 1, none⟩), .string v] w fun e w' => e = .returned (.tuple #[]) ∧ ButB R w w' ∧ w'.heap[R]? = some (.cells (rdC D (effC k c v.data.toList)) 37 (0, 0))
theorem tab_row (k : Nat) (hk : k < 10) : ∃ g : Nat, tabC[k * 2]? = some (.string (rowN k)) ∧ tabC[k * 2 + 1]? = some (.func (.func g) #[] #[]) ∧ (∀ args W, (callFunc g args).run Tryz.prog W = .ok (.enter g args) W) ∧ EffOk k g := by
  rcases k with _ | _ | _ | _ | _ | _ | _ | _ | _ | _ | k
  · exact ⟨27, rfl, rfl, Go.Proofs.enters_of Tryz.func27 (by kernel_rfl) rfl, fun R D c v w h => eff1_any R _ _ _ _ _ _ _ _ _ _ _ _ v w h⟩
  · exact ⟨28, rfl, rfl, Go.Proofs.enters_of Tryz.func28 (by kernel_rfl) rfl, fun R D c v w h => eff2_any R _ _ _ _ _ _ _ _ _ _ _ _ v w h⟩
  · exact ⟨29, rfl, rfl, Go.Proofs.enters_of Tryz.func29 (by kernel_rfl) rfl, fun R D c v w h => eff3_any R _ _ _ _ _ _ _ _ _ _ _ _ v w h⟩
  · exact ⟨30, rfl, rfl, Go.Proofs.enters_of Tryz.func30 (by kernel_rfl) rfl, fun R D c v w h => eff4_any R _ _ _ _ _ _ _ _ _ _ _ _ v w h⟩
  · exact ⟨31, rfl, rfl, Go.Proofs.enters_of Tryz.func31 (by kernel_rfl) rfl, fun R D c v w h => eff5_any R _ _ _ _ _ _ _ _ _ _ _ _ v w h⟩
  · exact ⟨32, rfl, rfl, Go.Proofs.enters_of Tryz.func32 (by kernel_rfl) rfl, fun R D c v w h => eff6_any R _ _ _ _ _ _ _ _ _ _ _ _ v w h⟩
  · exact ⟨33, rfl, rfl, Go.Proofs.enters_of Tryz.func33 (by kernel_rfl) rfl, fun R D c v w h => eff7_any R _ _ _ _ _ _ _ _ _ _ _ _ v w h⟩
  · exact ⟨34, rfl, rfl, Go.Proofs.enters_of Tryz.func34 (by kernel_rfl) rfl, fun R D c v w h => eff8_any R _ _ _ _ _ _ _ _ _ _ _ _ v w h⟩
  · exact ⟨36, rfl, rfl, Go.Proofs.enters_of Tryz.func36 (by kernel_rfl) rfl, fun R D c v w h => eff9_any R _ _ _ _ _ _ _ _ _ _ _ _ v w h⟩
  · exact ⟨37, rfl, rfl, Go.Proofs.enters_of Tryz.func37 (by kernel_rfl) rfl, fun R D c v w h => eff10_any R _ _ _ _ _ _ _ _ _ _ _ _ v w h⟩
  · omega

/-- Block R is a reader, with the table in block D. -/
structure Rdr (w : World) (R D : Nat) (c : Ctl) : Prop where
  row : w.heap[R]? = some (.cells (rdC D c) 37 (0, 0))
  tab : SlV w D tabC
  ne : D ≠ R
section
variable {w w' : World} {R D : Nat} {c : Ctl}
theorem Rdr.lt (h : Rdr w R D c) : R < w.heap.size := (Array.getElem?_eq_some_iff.1 h.row).1
theorem Rdr.tab_lt (h : Rdr w R D c) : D < w.heap.size := World.block_lt_of_cell? w _ (h.tab 0 _ rfl)
theorem SlV.but {g : Nat} {L : List Value} (h : SlV w g L) (hne : g ≠ R) (hb : ButB R w w') : SlV w' g L := fun j x hx => by
  have h1 := h j x hx
  exact (World.cell?_of_block (w := w) (hb.block _ (World.block_lt_of_cell? w _ h1) hne)).trans h1
theorem Rdr.but (h : Rdr w R D c) (hb : ButB R w w') {c' : Ctl} (hr : w'.heap[R]? = some (.cells (rdC D c') 37 (0, 0))) : Rdr w' R D c' := ⟨hr, h.tab.but h.ne hb, h.ne⟩
theorem Rdr.below (h : Rdr w R D c) (hb : Below w.heap.size w w') : Rdr w' R D c := ⟨zero_still hb h.row, h.tab.below hb, h.ne⟩
theorem rd_cell (h : Rdr w R D c) : w.cell? ⟨R, 0, none⟩ = some (.slice (some ⟨D, 0, none⟩) 10 10) := (rd_at h.row 0 _ rfl).1
/-- Strings lie elsewhere. -/
theorem SlS.but {A : Option Addr} {n d : Nat} {L : List (List UInt8)} (h : SlS w A n d L) (hh : Head w A) (hr : Rdr w R D c) (hb : ButB R w w') : SlS w' A n d L := by
  refine ⟨h.len, h.cap, h.cm, h.nil, fun hn => ?_⟩
  obtain ⟨ad, e, hc⟩ := h.at_ hn
  refine ⟨ad, e, fun j x hx => ?_⟩
  have h1 := hc j x hx
  have hne : ad.block ≠ R := by
    intro hR
    rcases hh with h0 | ⟨g, _, h0⟩
    · rw [h0] at e; cases e
    · rw [h0] at e
      cases e
      simp only at hR
      subst hR
      have hl := h.len
      have h2 := hc 0 L[0] (List.getElem?_eq_getElem (by omega))
      rw [addr_add, rd_cell hr] at h2
      cases h2
  exact (World.cell?_of_block (w := w) (hb.block _ (World.block_lt_of_cell? w _ h1) (by rw [add_block]; exact hne))).trans h1
theorem Head.but {A : Option Addr} (h : Head w A) (hb : ButB R w w') : Head w' A := by
  rcases h with h | ⟨g, hg, h⟩
  · exact .inl h
  · exact .inr ⟨g, Nat.lt_of_lt_of_le hg hb.size, h⟩
end

theorem rowsC_succ (d : Dv) (c : Ctl) (k : Nat) : rowsC d c (k + 1) = rowC k d (rowsC d c k) := rfl

set_option maxHeartbeats 8000000 in
set_option maxRecDepth 100000 in
theorem read_any (R D : Nat) (c : Ctl) (e : ByteArray) (w : World) (h : Rdr w R D c) (hz : e.size ≤ 100000000) :
    Calls Tryz.prog 16 #[.pointer (some ⟨R, 0, none⟩), .string e] w fun x w' => x = .returned (.tuple #[]) ∧ Rdr w' R D (readC c e.data.toList) ∧ ButB R w w' := by
  have CP := Lib.hid (param_any e w hz)
  have hrd : readC c e.data.toList = if parE e = 0 then stepC c ((parN e).data.toList, (parV e).data.toList) else c := by
    unfold readC dvO
    rw [mkS_self]
    by_cases h0 : parE e = 0
    · rw [if_pos h0, if_pos h0]
    · rw [if_neg h0, if_neg h0]
  rw [hrd]
  clear hrd hz
  generalize parE e = pe at *
  generalize parN e = pn at *
  generalize parV e = pv at *
  generalize parH e = ph at *
  have H0 := Lib.hid h
  clear h
  by_cases hpe : pe = 0
  · rw [if_pos hpe]
    subst hpe
    obtain ⟨Z, hZ⟩ : ∃ Z, Z = stepC c (pn.data.toList, pv.data.toList) := ⟨_, rfl⟩
    rw [← hZ]
    have HZ := Lib.hid hZ
    clear hZ
    go_enter Tryz.func16, Tryz.ntmps16
    go_wp2_with fail
    refine CP.out.mono ?_
    rintro x w1 ⟨rfl, hb1⟩
    have H1 := Lib.hid (H0.out.below hb1)
    have HB1 := Lib.hid hb1
    have hcs := rd_cell H1.out
    clear hb1 CP
    go_wp2_with fail
    go_loopw [24] (fun i wr => ∃ k : Nat, k ≤ 10 ∧ i = .int .i64 (k : Int) ∧ Hid (Rdr wr R D (rowsC (pn.data.toList, pv.data.toList) c k)) ∧ ButB R w1 wr) (fun i _ => 10 - (intOf i).toNat)
    case atStart => exact ⟨0, Nat.zero_le _, rfl, H1.out, ButB.refl _ _⟩
    case round =>
      clear H1 hcs
      obtain ⟨k, hk, rfl, HR, hbut⟩ := hrel
      by_cases hlt : k < 10
      · obtain ⟨g, hc0, hc1, eg, heff⟩ := tab_row k hlt
        have hs := rowsC_succ (pn.data.toList, pv.data.toList) c k
        generalize rowsC (pn.data.toList, pv.data.toList) c k = ck at *
        unfold rowC at hs
        simp only at hs
        generalize rowN k = nm at *
        have hq0 := HR.out.tab _ _ hc0
        have hq1 := HR.out.tab _ _ hc1
        clear hc0 hc1
        have hi0 : (0 : Int) ≤ (k : Int) := by omega
        have hi1 : (k : Int) < 10 := by omega
        by_cases hnm : pn.data.toList = nm.data.toList
        · rw [if_pos hnm] at hs
          have HS := Lib.hid hs
          have hnm' : (nm.toList == pn.toList) = true := by rw [Lib.toList_data, Lib.toList_data]; exact beq_iff_eq.2 hnm.symm
          have HC := Lib.hid (heff R D ck pv ((wr.alloc (.cells #[.string nm, .func (.func g) #[] #[]] 56)).drew) (zero_more HR.out.row))
          have HB2 : Hid (ButB R wr ((wr.alloc (.cells #[.string nm, .func (.func g) #[] #[]] 56)).drew)) := ButB.of_below (((Below.refl _ _).alloc (Nat.le_refl _) _).drew)
          clear hs hnm heff
          go_wp2_with fail
          go_region_law ((go_simp; refine (HC.out).mono ?_; rintro x w3 ⟨rfl, hb3, hr3⟩; have HB3 := Lib.hid hb3; have HR3 := Lib.hid hr3; clear hb3 hr3))
          all_goals
            go_wp2_with fail
            go_roundw
            case rel => exact ⟨k + 1, by omega, by go_num, by show Rdr _ _ _ _; rw [HS.out]; exact HR.out.but (HB2.out.trans HB3.out) HR3.out, hbut.trans (HB2.out.trans HB3.out)⟩
            case measure => simp [intOf]; omega
        · rw [if_neg hnm] at hs
          have HS := Lib.hid hs
          have hnm' : (nm.toList == pn.toList) = false := by rw [Lib.toList_data, Lib.toList_data]; exact beq_eq_false_iff_ne.2 (fun h => hnm h.symm)
          clear hs hnm heff
          go_wp2_with fail
          go_roundw
          case rel => exact ⟨k + 1, by omega, by go_num, by show Rdr _ _ _ _; rw [HS.out]; exact HR.out.below ((Below.refl _ _).alloc (Nat.le_refl _) _), hbut.trans (ButB.of_below ((Below.refl _ _).alloc (Nat.le_refl _) _))⟩
          case measure => simp [intOf]; omega
      · obtain rfl : k = 10 := by omega
        go_wp2_with fail
        go_end0
        exact ⟨rfl, by rw [HZ.out]; exact HR.out, (ButB.of_below HB1.out).trans hbut⟩
  · rw [if_neg hpe]
    go_enter Tryz.func16, Tryz.ntmps16
    go_wp2_with fail
    refine CP.out.mono ?_
    rintro x w1 ⟨rfl, hb1⟩
    go_wp2_with fail
    try simp only [Exit.inBlock, Exit.then]
    refine bodyPost_ret (results_none rfl _ _ _) rfl ?_
    exact ⟨rfl, H0.out.below hb1, ButB.of_below hb1⟩

end Go.Proofs.YtmpiahahhkimkaaGreatDoor
end

/-
  Contracts of package control's directives and visit.
-/
section
namespace Go.Proofs.YtmpiahahhkimkaaGreatDoor
open Go.RowKit

set_option maxHeartbeats 4000000 in
set_option maxRecDepth 100000 in
theorem dirs_any (w : World) :
    Calls Tryz.prog 13 #[] w fun e w' => ∃ D, w.heap.size ≤ D ∧ D < w'.heap.size ∧ e = .returned (.slice (some ⟨D, 0, none⟩) 10 10) ∧ SlV w' D tabC ∧ Below w.heap.size w w' := by
  have HT : Hid (SlV (w.alloc (.cells tabC.toArray 56)) w.heap.size tabC) := SlV.new w 56 (cs := tabC.toArray) (fun j x hx => by simpa using hx)
  have HB : Hid (Below w.heap.size w (w.alloc (.cells tabC.toArray 56))) := (Below.refl _ _).alloc (Nat.le_refl _) _
  unfold tabC nsS ncS pvS puS mrS xrS oiS maS smS mfS at HT HB ⊢
  simp only [List.toArray] at HT HB
  go_enter Tryz.func13, Tryz.ntmps13
  go_wp2_with fail
  go_ret
  exact ⟨w.heap.size, Nat.le_refl _, by simp, rfl, HT.out, HB.out⟩

theorem enters_read : ∀ args W, (callFunc 16 args).run Tryz.prog W = .ok (.enter 16 args) W := Go.Proofs.enters_of Tryz.func16 (by kernel_rfl) rfl

theorem fold_dvs_snoc (V : List (List UInt8)) (k : Nat) (h : k < V.length) (c : Ctl) : (dvs (V.take (k + 1))).foldl stepC c = (splO V[k]).foldl readC ((dvs (V.take k)).foldl stepC c) := by
  rw [dvs_snoc V k h, List.foldl_append, fold_readC]
  rfl
theorem fold_take (E : List (List UInt8)) (j : Nat) (h : j < E.length) (c : Ctl) : (E.take (j + 1)).foldl readC c = readC ((E.take j).foldl readC c) E[j] := by
  rw [List.take_succ_eq_append_getElem h, List.foldl_append]
  rfl

set_option maxHeartbeats 16000000 in
set_option maxRecDepth 100000 in
theorem visit_any (A : Option Addr) (n d : Nat) (V : List (List UInt8)) (R D : Nat) (c : Ctl) (w : World) (hS : SlS w A n d V) (hh : Head w A) (h : Rdr w R D c) (hn : n ≤ 1000) (hz : ∀ v ∈ V, v.length ≤ 10000) :
    Calls Tryz.prog 14 #[.slice A n d, .func (.func 16) #[.pointer (some ⟨R, 0, none⟩)] #[]] w fun e w' => e = .returned (.bool (fnV V)) ∧ Rdr w' R D ((dvs V).foldl stepC c) ∧ ButB R w w' := by
  have hlen := hS.len
  subst hlen
  have HS0 := Lib.hid hS
  have HH0 := Lib.hid hh
  have H0 := Lib.hid h
  have eg := enters_read
  clear hS hh h
  go_enter Tryz.func14, Tryz.ntmps14
  go_wp2_with fail
  go_loopw [14, 5] (fun i g wr => ∃ (k : Nat) (b : Bool), k ≤ V.length ∧ i = .int .i64 (k : Int) ∧ g = .bool b ∧ Hid (b = fnV (V.take k)) ∧ Hid (Rdr wr R D ((dvs (V.take k)).foldl stepC c)) ∧ ButB R w wr) (fun i _ _ => V.length - (intOf i).toNat)
  case atStart => exact ⟨0, true, Nat.zero_le _, rfl, rfl, rfl, H0.out, ButB.refl _ _⟩
  case round =>
    obtain ⟨k, b, hk, rfl, rfl, hfn, HR, hbut⟩ := hrel
    have HSr := Lib.hid (HS0.out.but HH0.out H0.out hbut)
    by_cases hlt : k < V.length
    · obtain ⟨ad, rfl, hc⟩ := HSr.out.at_ (by omega)
      have hcell := hc k V[k] (List.getElem?_eq_getElem hlt)
      have hvz := hz _ (List.getElem_mem hlt)
      have hsn := fold_dvs_snoc V k hlt c
      have hfs := fnV_snoc V k hlt
      obtain ⟨hEn, hEz⟩ := spl_sz hvz
      have CS := Lib.hid (fun W => split_any (mkS V[k]) W (by rw [mkS_size]; omega))
      rw [mkS_list] at CS
      have hse : splE V[k] = 0 ∨ splE V[k] = 5 := by
        unfold splE
        split
        · exact .inl rfl
        · exact .inr rfl
      generalize splO V[k] = E at *
      generalize splE V[k] = se at *
      generalize mkS V[k] = ms at *
      generalize (dvs (V.take k)).foldl stepC c = ck at *
      have hi0 : (0 : Int) ≤ (k : Int) := by omega
      have hi1 : (k : Int) < (V.length : Int) := by omega
      have HSN := Lib.hid hsn
      have HFS : Hid (fnV (V.take (k + 1)) = (b && decide (se = 0))) := by show _ = _; rw [hfs, ← hfn.out]
      clear hc hvz hsn hfs hfn
      rcases hse with hse | hse
      all_goals
        cases b
        all_goals
          subst hse
          go_wp2_with fail
          refine (CS.out _).mono ?_
          rintro e w2 ⟨A2, c2, rfl, hS2, hh2, hb2⟩
          have HS2 := Lib.hid hS2
          have HH2 := Lib.hid hh2
          have HR2 := Lib.hid (HR.out.below hb2)
          have HB2 := Lib.hid (hbut.trans (ButB.of_below hb2))
          clear hb2 hS2 hh2
          go_wp2_with fail
          go_loopw [27] (fun i wi => ∃ j : Nat, j ≤ E.length ∧ i = .int .i64 (j : Int) ∧ Hid (Rdr wi R D ((E.take j).foldl readC ck)) ∧ ButB R w2 wi) (fun i _ => E.length - (intOf i).toNat)
          case atStart => exact ⟨0, Nat.zero_le _, rfl, HR2.out, ButB.refl _ _⟩
          case round =>
            obtain ⟨j, hj, rfl, HRi, hbi⟩ := hrel
            have HSi := Lib.hid (HS2.out.but HH2.out HR2.out hbi)
            by_cases hjl : j < E.length
            · obtain ⟨bd, rfl, hd⟩ := HSi.out.at_ (by omega)
              have hcell2 := hd j E[j] (List.getElem?_eq_getElem hjl)
              have hez := hEz _ (List.getElem_mem hjl)
              have hft := fold_take E j hjl ck
              have CR := Lib.hid (fun W (hW : Rdr W R D ((E.take j).foldl readC ck)) => read_any R D _ (mkS E[j]) W hW (by rw [mkS_size]; omega))
              rw [mkS_list, ← hft] at CR
              generalize mkS E[j] = me at *
              have hj0 : (0 : Int) ≤ (j : Int) := by omega
              have hj1 : (j : Int) < (E.length : Int) := by omega
              clear hd hft hez
              go_wp2_with fail
              refine (CR.out _ HRi.out).mono ?_
              rintro e w3 ⟨rfl, hr3, hb3⟩
              have HR3 := Lib.hid hr3
              have HB3 := Lib.hid (hbi.trans hb3)
              clear hr3 hb3
              go_wp2_with fail
              go_roundw
              case rel => exact ⟨j + 1, by omega, by go_num, HR3.out, HB3.out⟩
              case measure => simp [intOf]; omega
            · have HT : Hid (E.foldl readC ck = (E.take j).foldl readC ck) := by show _ = _; rw [List.take_of_length_le (by omega)]
              have hj1 : ¬ (j : Int) < (E.length : Int) := by omega
              go_wp2_with fail
              go_roundw
              case rel => exact ⟨k + 1, _, by omega, by go_num, rfl, by show _ = _; rw [HFS.out]; rfl, by show Rdr _ _ _ _; rw [HSN.out, HT.out]; exact HRi.out, HB2.out.trans hbi⟩
              case measure => simp [intOf]; omega
    · rw [List.take_of_length_le (show V.length ≤ k by omega)] at hfn HR
      have hi1 : ¬ (k : Int) < (V.length : Int) := by omega
      go_wp2_with fail
      go_ret
      exact ⟨by rw [← hfn.out]; rfl, HR.out, hbut⟩

end Go.Proofs.YtmpiahahhkimkaaGreatDoor
end
