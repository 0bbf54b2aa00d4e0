/-
  Texts that the laws of this seat lean on, one behind the other.
-/
import Derived.Test.YtmpiahahhkimkaaDoorMrgO
import Derived.Test.YtmpiahahhkimkaaDoorMrgF
import Derived.Test.YtmpiahahhkimkaaDoorMrgE
import Derived.Deep.RegionHeld3
import Derived.Deep.AppendLies
import Derived.Test.YtmpiahahhkimkaaDoorMrgQ
import Derived.Test.YtmpiahahhkimkaaDoorMrgJ
import Derived.Test.YtmpiahahhkimkaaDoorMrgM
import Derived.Test.YtmpiahahhkimkaaDoorMrgP
import Derived.Test.YtmpiahahhkimkaaDoorMrgN
import Derived.Shelf.Abstract
import Derived.Laws.EntriesVeiled
import Derived.Test.YtmpiahahhkimkaaDoorMrgK
/-
  Contracts of the effects in package control's table of directives: each writes one cell behind the pointer.
-/
section
namespace Go.Proofs.YtmpiahahhkimkaaDoor
open Go.RowKit

theorem rd_set {w : World} {R t k : Nat} {cs : Array Value} (h : w.heap[R]? = some (.cells cs t (0, 0))) (u : Value) : (w.setCell ⟨R, k, none⟩ u).heap[R]? = some (.cells (cs.setIfInBounds k u) t (0, 0)) := by
  simp [World.setCell, Array.getElem?_modify, h]
theorem rd_at {w : World} {R t : Nat} {cs : Array Value} (h : w.heap[R]? = some (.cells cs t (0, 0))) (k : Nat) (u : Value) (hk : cs[k]? = some u) : w.cell? ⟨R, k, none⟩ = some u ∧ w.frozen? ⟨R, k, none⟩ = false :=
  ⟨(cell_of_row _ _ _ _ _ _ h).trans hk, by simp [World.frozen?, h]⟩

set_option maxHeartbeats 4000000 in
set_option maxRecDepth 100000 in
theorem eff1_any (R : Nat) (A : Option Addr) (n cp : Nat) (ns nc pv pu mc oi : Bool) (ma sh mf : Int) (v : ByteArray) (w : World)
    (h : w.heap[R]? = some (.cells #[.slice A n cp, .bool ns, .bool nc, .bool pv, .bool pu, .bool mc, .bool oi, .int .i64 ma, .int .i64 sh, .int .i64 mf] 49 (0, 0))) :
    Calls Tryd.prog 29 #[.pointer (some ⟨R, 1, none⟩), .string v] w fun e w' => e = .returned (.tuple #[]) ∧ ButB R w w' ∧ w'.heap[R]? = some (.cells #[.slice A n cp, .bool true, .bool nc, .bool pv, .bool pu, .bool mc, .bool oi, .int .i64 ma, .int .i64 sh, .int .i64 mf] 49 (0, 0)) := by
  have HG := Lib.hid h
  obtain ⟨hc, hf⟩ := rd_at h 1 _ rfl
  clear h
  go_enter Tryd.func29, Tryd.ntmps29
  go_wp2_with fail
  go_end0
  exact ⟨rfl, (ButB.refl _ _).setCell _ _, rd_set HG.out _⟩

set_option maxHeartbeats 4000000 in
set_option maxRecDepth 100000 in
theorem eff2_any (R : Nat) (A : Option Addr) (n cp : Nat) (ns nc pv pu mc oi : Bool) (ma sh mf : Int) (v : ByteArray) (w : World)
    (h : w.heap[R]? = some (.cells #[.slice A n cp, .bool ns, .bool nc, .bool pv, .bool pu, .bool mc, .bool oi, .int .i64 ma, .int .i64 sh, .int .i64 mf] 49 (0, 0))) :
    Calls Tryd.prog 30 #[.pointer (some ⟨R, 1, none⟩), .string v] w fun e w' => e = .returned (.tuple #[]) ∧ ButB R w w' ∧ w'.heap[R]? = some (.cells #[.slice A n cp, .bool ns, .bool true, .bool pv, .bool pu, .bool mc, .bool oi, .int .i64 ma, .int .i64 sh, .int .i64 mf] 49 (0, 0)) := by
  have HG := Lib.hid h
  obtain ⟨hc, hf⟩ := rd_at h 2 _ rfl
  clear h
  go_enter Tryd.func30, Tryd.ntmps30
  go_wp2_with fail
  go_end0
  exact ⟨rfl, (ButB.refl _ _).setCell _ _, rd_set HG.out _⟩

set_option maxHeartbeats 4000000 in
set_option maxRecDepth 100000 in
theorem eff3_any (R : Nat) (A : Option Addr) (n cp : Nat) (ns nc pv pu mc oi : Bool) (ma sh mf : Int) (v : ByteArray) (w : World)
    (h : w.heap[R]? = some (.cells #[.slice A n cp, .bool ns, .bool nc, .bool pv, .bool pu, .bool mc, .bool oi, .int .i64 ma, .int .i64 sh, .int .i64 mf] 49 (0, 0))) :
    Calls Tryd.prog 31 #[.pointer (some ⟨R, 1, none⟩), .string v] w fun e w' => e = .returned (.tuple #[]) ∧ ButB R w w' ∧ w'.heap[R]? = some (.cells #[.slice A n cp, .bool ns, .bool nc, .bool true, .bool pu, .bool mc, .bool oi, .int .i64 ma, .int .i64 sh, .int .i64 mf] 49 (0, 0)) := by
  have HG := Lib.hid h
  obtain ⟨hc, hf⟩ := rd_at h 3 _ rfl
  clear h
  go_enter Tryd.func31, Tryd.ntmps31
  go_wp2_with fail
  go_end0
  exact ⟨rfl, (ButB.refl _ _).setCell _ _, rd_set HG.out _⟩

set_option maxHeartbeats 4000000 in
set_option maxRecDepth 100000 in
theorem eff4_any (R : Nat) (A : Option Addr) (n cp : Nat) (ns nc pv pu mc oi : Bool) (ma sh mf : Int) (v : ByteArray) (w : World)
    (h : w.heap[R]? = some (.cells #[.slice A n cp, .bool ns, .bool nc, .bool pv, .bool pu, .bool mc, .bool oi, .int .i64 ma, .int .i64 sh, .int .i64 mf] 49 (0, 0))) :
    Calls Tryd.prog 32 #[.pointer (some ⟨R, 1, none⟩), .string v] w fun e w' => e = .returned (.tuple #[]) ∧ ButB R w w' ∧ w'.heap[R]? = some (.cells #[.slice A n cp, .bool ns, .bool nc, .bool pv, .bool true, .bool mc, .bool oi, .int .i64 ma, .int .i64 sh, .int .i64 mf] 49 (0, 0)) := by
  have HG := Lib.hid h
  obtain ⟨hc, hf⟩ := rd_at h 4 _ rfl
  clear h
  go_enter Tryd.func32, Tryd.ntmps32
  go_wp2_with fail
  go_end0
  exact ⟨rfl, (ButB.refl _ _).setCell _ _, rd_set HG.out _⟩

set_option maxHeartbeats 4000000 in
set_option maxRecDepth 100000 in
theorem eff5_any (R : Nat) (A : Option Addr) (n cp : Nat) (ns nc pv pu mc oi : Bool) (ma sh mf : Int) (v : ByteArray) (w : World)
    (h : w.heap[R]? = some (.cells #[.slice A n cp, .bool ns, .bool nc, .bool pv, .bool pu, .bool mc, .bool oi, .int .i64 ma, .int .i64 sh, .int .i64 mf] 49 (0, 0))) :
    Calls Tryd.prog 33 #[.pointer (some ⟨R, 1, none⟩), .string v] w fun e w' => e = .returned (.tuple #[]) ∧ ButB R w w' ∧ w'.heap[R]? = some (.cells #[.slice A n cp, .bool ns, .bool nc, .bool pv, .bool pu, .bool true, .bool oi, .int .i64 ma, .int .i64 sh, .int .i64 mf] 49 (0, 0)) := by
  have HG := Lib.hid h
  obtain ⟨hc, hf⟩ := rd_at h 5 _ rfl
  clear h
  go_enter Tryd.func33, Tryd.ntmps33
  go_wp2_with fail
  go_end0
  exact ⟨rfl, (ButB.refl _ _).setCell _ _, rd_set HG.out _⟩

set_option maxHeartbeats 4000000 in
set_option maxRecDepth 100000 in
theorem eff6_any (R : Nat) (A : Option Addr) (n cp : Nat) (ns nc pv pu mc oi : Bool) (ma sh mf : Int) (v : ByteArray) (w : World)
    (h : w.heap[R]? = some (.cells #[.slice A n cp, .bool ns, .bool nc, .bool pv, .bool pu, .bool mc, .bool oi, .int .i64 ma, .int .i64 sh, .int .i64 mf] 49 (0, 0))) :
    Calls Tryd.prog 34 #[.pointer (some ⟨R, 1, none⟩), .string v] w fun e w' => e = .returned (.tuple #[]) ∧ ButB R w w' ∧ w'.heap[R]? = some (.cells #[.slice A n cp, .bool ns, .bool nc, .bool pv, .bool pu, .bool true, .bool oi, .int .i64 ma, .int .i64 sh, .int .i64 mf] 49 (0, 0)) := by
  have HG := Lib.hid h
  obtain ⟨hc, hf⟩ := rd_at h 5 _ rfl
  clear h
  go_enter Tryd.func34, Tryd.ntmps34
  go_wp2_with fail
  go_end0
  exact ⟨rfl, (ButB.refl _ _).setCell _ _, rd_set HG.out _⟩

set_option maxHeartbeats 4000000 in
set_option maxRecDepth 100000 in
theorem eff7_any (R : Nat) (A : Option Addr) (n cp : Nat) (ns nc pv pu mc oi : Bool) (ma sh mf : Int) (v : ByteArray) (w : World)
    (h : w.heap[R]? = some (.cells #[.slice A n cp, .bool ns, .bool nc, .bool pv, .bool pu, .bool mc, .bool oi, .int .i64 ma, .int .i64 sh, .int .i64 mf] 49 (0, 0))) :
    Calls Tryd.prog 35 #[.pointer (some ⟨R, 1, none⟩), .string v] w fun e w' => e = .returned (.tuple #[]) ∧ ButB R w w' ∧ w'.heap[R]? = some (.cells #[.slice A n cp, .bool ns, .bool nc, .bool pv, .bool pu, .bool mc, .bool true, .int .i64 ma, .int .i64 sh, .int .i64 mf] 49 (0, 0)) := by
  have HG := Lib.hid h
  obtain ⟨hc, hf⟩ := rd_at h 6 _ rfl
  clear h
  go_enter Tryd.func35, Tryd.ntmps35
  go_wp2_with fail
  go_end0
  exact ⟨rfl, (ButB.refl _ _).setCell _ _, rd_set HG.out _⟩

set_option maxHeartbeats 4000000 in
set_option maxRecDepth 100000 in
theorem eff8_any (R : Nat) (A : Option Addr) (n cp : Nat) (ns nc pv pu mc oi : Bool) (ma sh mf : Int) (v : ByteArray) (w : World)
    (h : w.heap[R]? = some (.cells #[.slice A n cp, .bool ns, .bool nc, .bool pv, .bool pu, .bool mc, .bool oi, .int .i64 ma, .int .i64 sh, .int .i64 mf] 49 (0, 0))) :
    Calls Tryd.prog 36 #[.pointer (some ⟨R, 1, none⟩), .string v] w fun e w' => e = .returned (.tuple #[]) ∧ ButB R w w' ∧ w'.heap[R]? = some (.cells #[.slice A n cp, .bool ns, .bool nc, .bool pv, .bool pu, .bool mc, .bool oi, .int .i64 (leaN ma (secN v.data.toList)), .int .i64 sh, .int .i64 mf] 49 (0, 0)) := by
  have HG := Lib.hid h
  obtain ⟨hc, hf⟩ := rd_at h 7 _ rfl
  clear h
  have CS := Lib.hid (fun W => secs_any v 0 W)
  have HS := Lib.hid (sec_or v.data.toList)
  rw [HS.out] at CS
  clear HS
  generalize secN v.data.toList = q at *
  have CL := Lib.hid (fun W => lst_any ma q W)
  generalize leaN ma q = r at *
  go_enter Tryd.func36, Tryd.ntmps36
  go_region_law (first
    | (go_simp; go_at_call 37; refine (CS.out _).mono ?_; rintro e w1 ⟨rfl, hb1⟩; have HB := Lib.hid hb1; have hc1 := cell_kept hb1 hc; have hf1 := (hb1.frozen (World.block_lt_of_cell? w _ hc)).trans hf; have HG1 := Lib.hid (zero_still hb1 HG.out); clear hb1)
    | (go_simp; go_at_call 8; refine (CL.out _).mono ?_; rintro e w2 ⟨rfl, rfl⟩))
  all_goals
    go_wp2_with fail
    go_end0
    exact ⟨rfl, (ButB.of_below (show Below w.heap.size w w1 from (Below.refl w.heap.size w).drew.trans HB.out)).setCell _ _, rd_set HG1.out _⟩

set_option maxHeartbeats 4000000 in
set_option maxRecDepth 100000 in
theorem eff9_any (R : Nat) (A : Option Addr) (n cp : Nat) (ns nc pv pu mc oi : Bool) (ma sh mf : Int) (v : ByteArray) (w : World)
    (h : w.heap[R]? = some (.cells #[.slice A n cp, .bool ns, .bool nc, .bool pv, .bool pu, .bool mc, .bool oi, .int .i64 ma, .int .i64 sh, .int .i64 mf] 49 (0, 0))) :
    Calls Tryd.prog 38 #[.pointer (some ⟨R, 1, none⟩), .string v] w fun e w' => e = .returned (.tuple #[]) ∧ ButB R w w' ∧ w'.heap[R]? = some (.cells #[.slice A n cp, .bool ns, .bool nc, .bool pv, .bool pu, .bool mc, .bool oi, .int .i64 ma, .int .i64 (leaN sh (secN v.data.toList)), .int .i64 mf] 49 (0, 0)) := by
  have HG := Lib.hid h
  obtain ⟨hc, hf⟩ := rd_at h 8 _ rfl
  clear h
  have CS := Lib.hid (fun W => secs_any v 0 W)
  have HS := Lib.hid (sec_or v.data.toList)
  rw [HS.out] at CS
  clear HS
  generalize secN v.data.toList = q at *
  have CL := Lib.hid (fun W => lst_any sh q W)
  generalize leaN sh q = r at *
  go_enter Tryd.func38, Tryd.ntmps38
  go_region_law (first
    | (go_simp; go_at_call 37; refine (CS.out _).mono ?_; rintro e w1 ⟨rfl, hb1⟩; have HB := Lib.hid hb1; have hc1 := cell_kept hb1 hc; have hf1 := (hb1.frozen (World.block_lt_of_cell? w _ hc)).trans hf; have HG1 := Lib.hid (zero_still hb1 HG.out); clear hb1)
    | (go_simp; go_at_call 8; refine (CL.out _).mono ?_; rintro e w2 ⟨rfl, rfl⟩))
  all_goals
    go_wp2_with fail
    go_end0
    exact ⟨rfl, (ButB.of_below (show Below w.heap.size w w1 from (Below.refl w.heap.size w).drew.trans HB.out)).setCell _ _, rd_set HG1.out _⟩

set_option maxHeartbeats 4000000 in
set_option maxRecDepth 100000 in
theorem eff10_any (R : Nat) (A : Option Addr) (n cp : Nat) (ns nc pv pu mc oi : Bool) (ma sh mf : Int) (v : ByteArray) (w : World)
    (h : w.heap[R]? = some (.cells #[.slice A n cp, .bool ns, .bool nc, .bool pv, .bool pu, .bool mc, .bool oi, .int .i64 ma, .int .i64 sh, .int .i64 mf] 49 (0, 0))) :
    Calls Tryd.prog 39 #[.pointer (some ⟨R, 1, none⟩), .string v] w fun e w' => e = .returned (.tuple #[]) ∧ ButB R w w' ∧ w'.heap[R]? = some (.cells #[.slice A n cp, .bool ns, .bool nc, .bool pv, .bool pu, .bool mc, .bool oi, .int .i64 ma, .int .i64 sh, .int .i64 (max mf (if secB v.data.toList = true then secN v.data.toList else 2147483648))] 49 (0, 0)) := by
  have HG := Lib.hid h
  obtain ⟨hc, hf⟩ := rd_at h 9 _ rfl
  clear h
  have CS := Lib.hid (fun W => secs_any v 2147483648 W)
  generalize (if secB v.data.toList = true then secN v.data.toList else 2147483648) = q at *
  go_enter Tryd.func39, Tryd.ntmps39
  go_region_law ((go_simp; go_at_call 37; refine (CS.out _).mono ?_; rintro e w1 ⟨rfl, hb1⟩; have HB := Lib.hid hb1; have hc1 := cell_kept hb1 hc; have hf1 := (hb1.frozen (World.block_lt_of_cell? w _ hc)).trans hf; have HG1 := Lib.hid (zero_still hb1 HG.out); clear hb1))
  all_goals
    go_wp2_with fail
    go_end0
    exact ⟨rfl, (ButB.of_below (show Below w.heap.size w w1 from (Below.refl w.heap.size w).drew.trans HB.out)).setCell _ _, rd_set HG1.out _⟩

end Go.Proofs.YtmpiahahhkimkaaDoor
end

/-
  Contracts of package fields' Line, long, alike; the tests that choose, IndexFunc and ContainsFunc are handed.
-/
section
namespace Go.Proofs.YtmpiahahhkimkaaDoor
open Go.RowKit

/-! ### The tests -/
theorem enters_named : ∀ args W, (callFunc 54 args).run Tryd.prog W = .ok (.enter 54 args) W := Go.Proofs.enters_of Tryd.func54 (by kernel_rfl) rfl
theorem enters_has : ∀ args W, (callFunc 44 args).run Tryd.prog W = .ok (.enter 44 args) W := Go.Proofs.enters_of Tryd.func44 (by kernel_rfl) rfl

theorem named_pred (w : World) (a : Nat) (A : Option Addr) (n c : Nat) (names : List (List UInt8)) (ha : w.cell? ⟨a, 0, none⟩ = some (.slice A n c)) (h : SlS w A n c names) (hz : ∀ x ∈ names, x.length ≤ maxLen) (hn : n ≤ 1000000000) :
    PredF w 54 #[.pointer (some ⟨a, 0, none⟩)] (nmd names) := fun W x hb h1 =>
  named_in a A n c names W (cell_kept hb ha) (h.below hb) hz hn x h1.one
end Go.Proofs.YtmpiahahhkimkaaDoor
end

/-
  Contracts of package fields' Drop, All, Get, Has.
-/
section
namespace Go.Proofs.YtmpiahahhkimkaaDoor
open Go.RowKit

theorem SlS.textAt (w : World) (t : TypeId) (x : ByteArray) {g : Nat} (hg : w.heap.size = g) : SlS (w.alloc (.cells #[.string x] t)) (some ⟨g, 0, none⟩) 1 1 [x.data.toList] := by
  subst hg
  exact SlS.text w t x
/-- What All answers. -/
def Vals (w : World) (X : List (List UInt8)) (e : Ending) (w' : World) : Prop :=
  ∃ A c, e = .returned (.slice A X.length c) ∧ SlS w' A X.length c X ∧ Head w' A ∧ Below w.heap.size w w'

set_option maxHeartbeats 4000000 in
set_option maxRecDepth 100000 in
theorem all_any (A : Option Addr) (n c : Nat) (L : List Fd) (name : ByteArray) (w : World) (h : SlF w A n c L) (hn : n ≤ 100000000) (hB : ∀ x ∈ L, Bd x) (hz : name.size ≤ maxLen) :
    Calls Tryd.prog 21 #[.slice A n c, .string name] w (Vals w (fdAll L name)) := by
  have hb1 : Below w.heap.size w (w.alloc (.cells #[.string name] 9)) := (Below.refl _ _).alloc (Nat.le_refl _) _
  have hb2 : Below w.heap.size w ((w.alloc (.cells #[.string name] 9)).alloc (.cells #[.slice (some ⟨w.heap.size, 0, none⟩) 1 1] 32)) := hb1.alloc (by simp) _
  have p1 : PredF ((w.alloc (.cells #[.string name] 9)).alloc (.cells #[.slice (some ⟨w.heap.size, 0, none⟩) 1 1] 32)) 54 #[.pointer (some ⟨w.heap.size + 1, 0, none⟩)] (nmd [name.data.toList]) :=
    named_pred _ (w.heap.size + 1) _ 1 1 [name.data.toList] (zero_one (heap_alloc2_new w _ _)) ((SlS.text w 9 name).alloc _) (fun x hx => by
      simp only [List.mem_singleton] at hx
      subst hx
      rw [← Lib.size_eq]; exact hz) (by decide)
  rw [nmd_one'] at p1
  have hq := choose_any A n c L _ (h.below hb2) hn hB 54 _ _ enters_named p1
  have hs2 : ((w.alloc (.cells #[.string name] 9)).alloc (.cells #[.slice (some ⟨w.heap.size, 0, none⟩) 1 1] 32)).heap.size = w.heap.size + 2 := by simp
  have HQ := Lib.hid hq
  have HB2 := Lib.hid hb2
  have HS2 := Lib.hid hs2
  have hD : fdAll L name = (L.filter fun x => sameB x.1 name).map fun x => x.2.data.toList := rfl
  rw [hD]
  have hlen : (L.filter fun x => sameB x.1 name).length ≤ 100000000 := Nat.le_trans (List.length_filter_le _ _) (by have := h.len; omega)
  have hsz : ∀ x ∈ (L.filter fun x => sameB x.1 name), x.1.size ≤ maxLen ∧ x.2.size ≤ maxLen := fun x hx => h.sz x ((List.mem_filter.1 hx).1)
  generalize (L.filter fun x => sameB x.1 name) = R at *
  clear hq hb1 hb2 hs2 p1 hD
  go_enter Tryd.func21, Tryd.ntmps21
  go_wp2_with fail
  refine (named_any _ 1 1 _ rfl _).mono ?_
  rintro e w1 ⟨rfl, rfl⟩
  go_wp2_with fail
  refine HQ.out.mono ?_
  rintro e w1 ⟨v, rfl, ho, hb⟩
  have hbw := HB2.out.trans (hb.mono (by rw [HS2.out]; omega))
  obtain ⟨A1, c1, rfl, hF⟩ := ho.slf hsz
  have HF := Lib.hid hF
  have HB := Lib.hid hbw
  clear ho hb hF hbw HQ HB2 HS2
  go_wp2_with fail
  go_loopw [5, 14] (fun v i wr => ∃ k : Nat, k ≤ R.length ∧ i = .int .i64 k ∧ Hid (OwnS wr w1.heap.size 9 v ((R.take k).map fun x => x.2.data.toList)) ∧ Below w1.heap.size w1 wr) (fun _ i _ => R.length - (intOf i).toNat)
  case atStart => exact ⟨0, Nat.zero_le _, rfl, OwnS.nil _ _ _, Below.refl _ _⟩
  case round =>
    obtain ⟨k, hk, rfl, hown, hbel⟩ := hrel
    by_cases hlt : k < R.length
    · obtain ⟨ad, rfl, hc⟩ := HF.out.at_ (by omega)
      obtain ⟨hc0, hc1⟩ := hc k R[k] (List.getElem?_eq_getElem hlt)
      have hcell0 := cell_kept hbel hc0
      have hcell1 := fd_snd (cell_kept hbel hc1)
      have HS : Hid ((R.take (k + 1)).map (fun x => x.2.data.toList) = (R.take k).map (fun x => x.2.data.toList) ++ [R[k].2.data.toList]) := by
        show _ = _
        rw [take_fd R k hlt, List.map_append]; rfl
      have hlx : ((R.take k).map fun x => x.2.data.toList).length ≤ k := by rw [List.length_map, List.length_take]; omega
      generalize R[k] = x at *
      obtain ⟨a, b⟩ := x
      generalize hX : ((R.take k).map fun x => x.2.data.toList) = X at *
      have hi0 : (0 : Int) ≤ (k : Int) := by omega
      have hi1 : (k : Int) < (R.length : Int) := by omega
      have HO := Lib.hid (hown.out.alloc (.cells #[.string a, .string b] 37))
      have HB5 := Lib.hid (hbel.alloc hbel.size (.cells #[.string a, .string b] 37))
      have hs5 := HB5.out.size
      have hs4 := hbel.size
      clear hc hc0 hc1 hown hX
      go_wp2_with (at_builtin; refine wpList_append_sls rfl _ _ _ rfl w1.heap.size 9 Tryd.underlying32 (by kernel_rfl) _ rfl X (HO.out.alloc _) _ _ _ rfl [b.data.toList] (SlS.textAt _ _ b (by simp)) (by simp; omega) (by simp; omega) w1 (HB5.out.alloc hs5 _) ?_; intro v1 w2 ho2 hb2 hz2)
      go_roundw
      case rel => exact ⟨k + 1, by omega, by go_num, by show OwnS _ _ _ _ _; rw [HS.out]; exact ho2.out, hb2⟩
      case measure => simp [intOf]; omega
    · have HE : Hid ((R.take k).map (fun x => x.2.data.toList) = R.map fun x => x.2.data.toList) := by
        show _ = _
        rw [List.take_of_length_le (by omega)]
      rw [HE.out] at hown
      go_wp2_with fail
      go_ret
      obtain ⟨A2, c2, rfl, hA, hH⟩ := hown.out.sls
      exact ⟨A2, c2, rfl, hA, hH, below_then HB.out hbel⟩

theorem getF_any (A : Option Addr) (n c : Nat) (L : List Fd) (name : ByteArray) (w : World) (h : SlF w A n c L) (hn : n ≤ 100000000) (hB : ∀ x ∈ L, Bd x) (hz : name.size ≤ maxLen) (hj : (Lib.join (fdAll L name) [44, 32]).length ≤ 1000000000000) :
    Calls Tryd.prog 23 #[.slice A n c, .string name] w fun e w' => e = .returned (.tuple #[.string (fdGet L name), .bool (fdGot L name)]) ∧ Below w.heap.size w w' := by
  have hq := all_any A n c L name w h hn hB hz
  have hD : fdGet L name = mkS (Lib.join (fdAll L name) [44, 32]) := rfl
  have hE : fdGot L name = decide ((0 : Int) < ((fdAll L name).length : Int)) := by
    unfold fdGot
    cases fdAll L name with
    | nil => rfl
    | cons x r => simp
  have hl : (fdAll L name).length ≤ 100000000 := by
    unfold fdAll
    rw [List.length_map]
    exact Nat.le_trans (List.length_filter_le _ _) (by have := h.len; omega)
  rw [hD, hE]
  generalize fdAll L name = X at *
  have HQ := Lib.hid hq
  have cj := fun A c W (hs : SlS W A X.length c X) hH => join_any A X.length c X W hs hH (by omega) hj
  generalize mkS (Lib.join X [44, 32]) = J at *
  have CJ := Lib.hid cj
  clear hq hD hE cj hj
  go_enter Tryd.func23, Tryd.ntmps23
  go_wp2_with fail
  refine HQ.out.mono ?_
  unfold Vals
  rintro e w1 ⟨A1, c1, rfl, hA, hH, hb1⟩
  go_wp2_with fail
  refine (CJ.out _ _ _ hA hH).mono ?_
  rintro e w2 ⟨rfl, hb2⟩
  by_cases h0 : (0 : Int) < (X.length : Int)
  all_goals
    go_wp2_with fail
    go_ret2
    exact ⟨by simp_all, below_then hb1 hb2⟩

theorem has_in (a : Nat) (item : ByteArray) (W : World) (ha : W.cell? ⟨a, 0, none⟩ = some (.string item)) (hi : item.size ≤ maxLen) (x : List UInt8) (hx : x.length ≤ 1000000000) :
    Calls Tryd.prog 44 #[.string (mkS x), .pointer (some ⟨a, 0, none⟩)] W fun e w' => e = .returned (.bool (hasL (splO x) item)) ∧ Below W.heap.size W w' := by
  have cc := has_any (mkS x) item W (by rw [mkS_size]; exact hx) hi
  rw [mkS_list] at cc
  generalize hasL (splO x) item = q at *
  generalize mkS x = s at *
  have CC := Lib.hid cc
  clear cc
  go_enter Tryd.func44, Tryd.ntmps44
  go_wp2_with fail
  refine CC.out.mono ?_
  rintro e w1 ⟨rfl, hb1⟩
  go_wp2_with fail
  go_ret
  exact ⟨rfl, hb1⟩

theorem hasF_any (A : Option Addr) (n c : Nat) (L : List Fd) (name item : ByteArray) (w : World) (h : SlF w A n c L) (hn : n ≤ 100000000) (hB : ∀ x ∈ L, Bd x) (hz : name.size ≤ maxLen) (hi : item.size ≤ maxLen) :
    Calls Tryd.prog 24 #[.slice A n c, .string name, .string item] w fun e w' => e = .returned (.bool (fdHas L name item)) ∧ Below w.heap.size w w' := by
  have hmf : ∀ (fn : Fn) (first cap : Array Value) (w : World), (Instr.makeFunc fn first cap).run Tryd.prog w = .ok (.func fn first cap) w := fun _ _ _ _ => rfl
  have hb1 : Below w.heap.size w (w.alloc (.cells #[.string item] 9)) := (Below.refl _ _).alloc (Nat.le_refl _) _
  have hq := all_any A n c L name (w.alloc (.cells #[.string item] 9)) (h.below hb1) hn hB hz
  have hD : fdHas L name item = (fdAll L name).any fun v => hasL (splO v) item := rfl
  have hl : (fdAll L name).length ≤ 100000000 := by
    unfold fdAll
    rw [List.length_map]
    exact Nat.le_trans (List.length_filter_le _ _) (by have := h.len; omega)
  have hx : ∀ x ∈ fdAll L name, x.length ≤ 1000000000 := fun x hx => by
    unfold fdAll at hx
    obtain ⟨y, hy, rfl⟩ := List.mem_map.1 hx
    rw [← Lib.size_eq]
    exact (hB y ((List.mem_filter.1 hy).1)).2
  rw [hD]
  generalize fdAll L name = X at *
  have cj := fun A c W (hb : Below w.heap.size (w.alloc (.cells #[.string item] 9)) W) (hc : W.cell? ⟨w.heap.size, 0, none⟩ = some (.string item)) (hs : SlS W A X.length c X) =>
    idxS_has A X.length c X W hs (by omega) hx 44 #[.pointer (some ⟨w.heap.size, 0, none⟩)] (fun v => hasL (splO v) item) enters_has (fun W' x hb' hx' => has_in w.heap.size item W' (cell_kept hb' hc) hi x hx')
  generalize (X.any fun v => hasL (splO v) item) = R at *
  have HQ := Lib.hid hq
  have CJ := Lib.hid cj
  clear hq hD cj hx
  go_enter Tryd.func24, Tryd.ntmps24
  go_wp2_with fail
  refine HQ.out.mono ?_
  unfold Vals
  rintro e w1 ⟨A1, c1, rfl, hA, hH, hb2⟩
  have hc := zero_one (zero_at hb2)
  go_wp2_with fail
  refine (CJ.out _ _ _ (hb2.mono (by simp)) hc hA).mono ?_
  rintro e w2 ⟨rfl, hb3⟩
  go_wp2_with fail
  go_ret
  exact ⟨rfl, below_then (zero_then hb2) hb3⟩

end Go.Proofs.YtmpiahahhkimkaaDoor
end

/-
  Contracts of package fields' Set, Same, Check.
-/
section
namespace Go.Proofs.YtmpiahahhkimkaaDoor
open Go.RowKit

/-! ### Set -/
theorem set_place (L : List Fd) (f : Fd) : (idxP (fun x => sameB x.1 f.1) L = -1 ∧ fdSet L f = (fdDrop L [f.1.data.toList]).take (fdDrop L [f.1.data.toList]).length ++ [f] ++ (fdDrop L [f.1.data.toList]).drop (fdDrop L [f.1.data.toList]).length) ∨
    ∃ i : Nat, idxP (fun x => sameB x.1 f.1) L = i ∧ i ≤ (fdDrop L [f.1.data.toList]).length ∧ fdSet L f = (fdDrop L [f.1.data.toList]).take i ++ [f] ++ (fdDrop L [f.1.data.toList]).drop i := by
  have hD : fdDrop L [f.1.data.toList] = L.filter fun x => !sameB x.1 f.1 := by
    unfold fdDrop
    rw [nmd_one']
  rw [hD]
  rcases idxP_cases (fun x => sameB x.1 f.1) L with ⟨h1, h2⟩ | ⟨i, hi, h1, h2, h3⟩
  · refine .inl ⟨h1, ?_⟩
    rw [List.take_length, List.drop_length, List.append_nil]
    exact set_none f L h2
  · obtain ⟨h4, h5⟩ := set_at f L i hi h3 h2
    exact .inr ⟨i, h1, h4, h5⟩

end Go.Proofs.YtmpiahahhkimkaaDoor
end

/-
  Contracts of the reference's Few, Line (layer 9).
-/
section
namespace Go.Proofs.YtmpiahahhkimkaaDoor
open Go.RowKit

def okF (b : Nat) (x : Fd) : Bool := decide (x.1.size ≤ b) && decide (x.2.size ≤ b)
def fewB (L : List Fd) (m b : Nat) : Bool := (L.take (m + 1)).all (okF b) && decide (L.length ≤ m)
theorem few_bad {L : List Fd} {m b k : Nat} (hk : k < L.length) (hm : k ≤ m) (h : okF b L[k] = false) : fewB L m b = false := by
  unfold fewB
  have : (L.take (m + 1)).all (okF b) = false := by
    rw [List.all_eq_false]
    exact ⟨L[k], List.mem_take_iff_getElem.2 ⟨k, by omega, rfl⟩, by simp [h]⟩
  rw [this]; rfl
theorem few_all {L : List Fd} {m b k : Nat} (hk : L.length ≤ k) (h : (L.take k).all (okF b) = true) : fewB L m b = decide (L.length ≤ m) := by
  unfold fewB
  rw [List.take_of_length_le hk] at h
  have : (L.take (m + 1)).all (okF b) = true := by
    rw [List.all_eq_true] at h ⊢
    exact fun x hx => h x (List.mem_of_mem_take hx)
  rw [this, Bool.true_and]
theorem few_many {L : List Fd} {m b : Nat} (h : m < L.length) : fewB L m b = false := by
  unfold fewB
  rw [decide_eq_false (by omega), Bool.and_false]
/-- What the law's guard leaves. -/
theorem few_yes {L : List Fd} {m b : Nat} (h : fewB L m b = true) : L.length ≤ m ∧ ∀ x ∈ L, x.1.size ≤ b ∧ x.2.size ≤ b := by
  unfold fewB at h
  rw [Bool.and_eq_true, decide_eq_true_eq, List.all_eq_true] at h
  refine ⟨h.2, fun x hx => ?_⟩
  have := h.1 x (by rw [List.take_of_length_le (by omega)]; exact hx)
  simpa [okF] using this

end Go.Proofs.YtmpiahahhkimkaaDoor
end

/-
  Contracts of the reference's All, Get, Has, Set (layer 9).
-/
section
namespace Go.Proofs.YtmpiahahhkimkaaDoor
open Go.RowKit

/-! ### Set -/
theorem setR_drop (f : Fd) (L : List Fd) (k : Nat) (h : k < L.length) (b : Bool) : setR f b (L.drop k) = if sameB L[k].1 f.1 then (if b then setR f true (L.drop (k + 1)) else f :: setR f true (L.drop (k + 1))) else L[k] :: setR f b (L.drop (k + 1)) := by
  rw [List.drop_eq_getElem_cons h]; rfl

end Go.Proofs.YtmpiahahhkimkaaDoor
end

/-
  Contract of the reference's elements (layer 13).
-/
section
namespace Go.Proofs.YtmpiahahhkimkaaDoor
open Go.RowKit

theorem dvs_snoc (V : List (List UInt8)) (k : Nat) (h : k < V.length) : dvs (V.take (k + 1)) = dvs (V.take k) ++ dvV V[k] := by
  unfold dvs
  rw [List.take_succ_eq_append_getElem h, List.flatMap_append]
  simp
theorem fnV_snoc (V : List (List UInt8)) (k : Nat) (h : k < V.length) : fnV (V.take (k + 1)) = (fnV (V.take k) && decide (splE V[k] = 0)) := by
  unfold fnV
  rw [List.take_succ_eq_append_getElem h, List.all_append]
  simp
theorem dvV_len (v : List UInt8) : (dvV v).length ≤ v.length + 1 := by
  unfold dvV
  refine Nat.le_trans (List.length_filterMap_le _ _) ?_
  unfold splO
  cases e : splitL v with
  | none => exact Nat.zero_le _
  | some L => exact (split_good e).2
theorem dvs_len : ∀ V : List (List UInt8), (∀ v ∈ V, v.length ≤ 10000) → (dvs V).length ≤ V.length * 10001
  | [], _ => Nat.zero_le _
  | v :: V, h => by
    have h1 := dvs_len V fun x hx => h x (List.mem_cons_of_mem _ hx)
    have h2 := h v (List.mem_cons_self ..)
    have h3 := dvV_len v
    have : dvs (v :: V) = dvV v ++ dvs V := rfl
    rw [this, List.length_append, List.length_cons]
    omega
theorem fm_snoc (E : List (List UInt8)) (j : Nat) (h : j < E.length) : (E.take (j + 1)).filterMap dvO = (E.take j).filterMap dvO ++ (match dvO E[j] with | some d => [d] | none => []) := by
  rw [List.take_succ_eq_append_getElem h, List.filterMap_append]
  congr 1
  cases e : dvO E[j] with
  | none => simp [e]
  | some d => simp [e]
theorem spl_sz {v : List UInt8} (h : v.length ≤ 10000) : (splO v).length ≤ 10001 ∧ ∀ x ∈ splO v, x.length ≤ 10000 := by
  unfold splO
  cases e : splitL v with
  | none => exact ⟨by simp, fun x hx => by simp at hx⟩
  | some L =>
    obtain ⟨g1, g2⟩ := split_good e
    exact ⟨by show L.length ≤ _; omega, fun x hx => by have := (g1 x hx).2; omega⟩

theorem ccS_le : ccS.size ≤ maxLen := by decide
end Go.Proofs.YtmpiahahhkimkaaDoor
end

/-
  Contracts of the reference's Parse, Asked (layer 13).
-/
section
namespace Go.Proofs.YtmpiahahhkimkaaDoor
open Go.RowKit

theorem has_map (D : List Dv) (nm : ByteArray) : hsN (D.map (·.1)) nm = hasD D nm := by
  unfold hsN hasD
  rw [List.any_map]
  rfl
theorem unqR_le : ∀ (l : List UInt8) (q : Nat) (t r : List UInt8), unqR q t l = some r → r.length ≤ t.length + l.length
  | [], q, t, r, h => by simp [unqR] at h
  | c :: l, q, t, r, h => by
    unfold unqR at h
    rw [List.length_cons]
    split at h
    · split at h
      · have e : t = r := by simpa using h
        rw [e]; omega
      · cases h
    · split at h
      · have := unqR_le l _ _ _ h
        omega
      · have := unqR_le l _ _ _ h
        rw [List.length_append, List.length_singleton] at this
        omega
theorem unqO_le (l : List UInt8) : (unqO l).length ≤ l.length := by
  unfold unqO
  cases l with
  | nil => exact Nat.zero_le _
  | cons c l =>
    cases e : unqL (c :: l) with
    | none => exact Nat.zero_le _
    | some r =>
      show r.length ≤ _
      have e2 : (if c = 34 then unqR 1 [] l else none) = some r := e
      by_cases hc : c = 34
      · rw [if_pos hc] at e2
        have := unqR_le _ _ _ _ e2
        simp only [List.length_nil] at this
        rw [List.length_cons]; omega
      · rw [if_neg hc] at e2; cases e2
theorem par_sz (s : ByteArray) : (parV s).size ≤ s.size := by
  unfold parV
  split
  · unfold valO
    split
    · exact flZ_le s 61
    · rw [mkS_size]
      exact Nat.le_trans (unqO_le _) (by rw [← Lib.size_eq]; exact flZ_le s 61)
  · exact Nat.zero_le _
theorem dvs_vals {V : List (List UInt8)} (h : ∀ v ∈ V, v.length ≤ 10000) : ∀ d ∈ dvs V, d.2.length ≤ 1000000 := fun d hd => by
  unfold dvs at hd
  obtain ⟨v, hv, hd2⟩ := List.mem_flatMap.1 hd
  unfold dvV at hd2
  obtain ⟨e, he, hd3⟩ := List.mem_filterMap.1 hd2
  have hz := (spl_sz (h v hv)).2 e he
  unfold dvO at hd3
  split at hd3
  · simp only [Option.some.injEq] at hd3
    rw [← hd3]
    show (parV (mkS e)).data.toList.length ≤ _
    rw [← Lib.size_eq]
    have h1 : (parV (mkS e)).size ≤ (mkS e).size := par_sz _
    rw [mkS_size] at h1
    omega
  · cases hd3

theorem all_small {L : List Fd} {nm : ByteArray} (hB : ∀ x ∈ L, x.2.size ≤ 10000) : ∀ v ∈ fdAll L nm, v.length ≤ 10000 := fun x hx => by
  unfold fdAll at hx
  obtain ⟨y, hy, rfl⟩ := List.mem_map.1 hx
  rw [← Lib.size_eq]
  exact hB y (List.mem_filter.1 hy).1
theorem all_many {L : List Fd} {nm : ByteArray} {n : Nat} (h : L.length ≤ n) : (fdAll L nm).length ≤ n := by
  unfold fdAll
  rw [List.length_map]
  exact Nat.le_trans (List.length_filter_le _ _) h

theorem ct_set {W : World} {g t : Nat} {c0 c1 c2 c3 c4 c5 c6 c7 c8 b : Value} (h : W.heap[g]? = some (.cells #[c0, c1, c2, c3, c4, c5, c6, c7, c8] t (0, 0))) : (W.setCell ⟨g, 1, none⟩ b).heap[g]? = some (.cells #[c0, b, c2, c3, c4, c5, c6, c7, c8] t (0, 0)) := by
  simp [World.setCell, Array.getElem?_modify, h]
theorem ct_set_other {W : World} {g k : Nat} {b : Value} {o : Obj} (hk : k ≠ g) (h : W.heap[k]? = some o) : (W.setCell ⟨g, 1, none⟩ b).heap[k]? = some o := by
  simp [World.setCell, Array.getElem?_modify, h, Ne.symm hk]
theorem prS_le : prS.size ≤ maxLen := by decide
theorem ncS_le : ncS.size ≤ maxLen := by decide
end Go.Proofs.YtmpiahahhkimkaaDoor
end

/-
  Contract of the reference's Print (layer 13).
-/
section
namespace Go.Proofs.YtmpiahahhkimkaaDoor
open Go.RowKit

/-- 'append(out, xs...)' on strings at a step of a region that draws its order: out the call's own, xs not nil. -/
theorem step_append_sls {P : Program} {ops : Array Oper} {o : Oper} {a : Act} {w : World} {K : Act → World → Prop} {Q : Exit → Act → World → Prop} {E : Prop} (hgd : o.guard = none) (s x : Operand) (t : TypeId)
    (ho : o.op = .call { callee := .builtin .append, args := #[s, x], argTypes := #[t, t] }) (base e : Nat) (ht : P.underlying t = some (.slice e))
    (hI : (P.info? e).map (fun i => (i.zero, i.size, i.bytes)) = some (some (.string ByteArray.empty), 1, 16)) (v : Value) (hs : a.eval s = v) (X : List (List UInt8)) (hown : OwnS w base e v X)
    (ad : Addr) (m c : Nat) (hx : a.eval x = .slice (some ad) m c) (Y : List (List UInt8)) (hY : SlS w (some ad) m c Y) (hm : 0 < m) (hlen : X.length + Y.length ≤ 1000000000) (hbase : base ≤ w.heap.size) (w0 : World) (hb : Below base w0 w)
    (h : ∀ v' w', Hid (OwnS w' base e v' (X ++ Y)) → Below base w0 w' → w.heap.size ≤ w'.heap.size → Hid (Grw w w' v v') → K (a.put o.dst v') w') :
    if Region.wanted o (yielded ops a.tmps) = true then Oper.wp P o a w K Q else E := by
  obtain ⟨i0, hi, hz0, hz1, hz2⟩ := info_parts hI
  have hl := hY.len
  refine step_append_lies w hgd s x t ho base e i0 (.string ByteArray.empty) 1 16 ht hi hz0 hz1 hz2 rfl (by decide) v _ _ hs hown ad m c (Y.map stV) hx (by rw [List.length_map, hl, Nat.mul_one]) hY.news (stV_ones _) hm (by unfold maxLen; omega) (by omega) hbase _ rfl ?_
  intro g cap w' hown' hgrow hat _
  refine h _ w' ?_ (hb.grown hgrow hbase (fun k hk => (hown.lt k hk).1)) hgrow.size ⟨fun a x hc hne => hgrow.cell hc hne, by
    rcases hat with e | e
    · exact .inl e.symm
    · exact .inr (congrArg some e)⟩
  show World.ownsRow _ _ _ _ _ _ _
  rw [List.length_append, hl, List.map_append]
  exact hown'

/-- The cells of a block begin with these values. -/
def SlV (w : World) (g : Nat) (L : List Value) : Prop := ∀ (j : Nat) (x : Value), L[j]? = some x → w.cell? ⟨g, j, none⟩ = some x
theorem SlV.new (w : World) (t : TypeId) {L : List Value} {cs : Array Value} (h : ∀ (j : Nat) (x : Value), L[j]? = some x → cs[j]? = some x) : SlV (w.alloc (.cells cs t)) w.heap.size L := fun j x hx => by
  rw [cell_of_row _ _ _ _ _ _ (heap_alloc_new w _)]
  exact h j x hx
theorem SlV.alloc {w : World} {g : Nat} {L : List Value} (h : SlV w g L) (o : Obj) : SlV (w.alloc o) g L := fun j x hx => Lib.cell?_alloc_some o (h j x hx)
theorem SlV.below {w w' : World} {g : Nat} {L : List Value} (h : SlV w g L) (hb : Below w.heap.size w w') : SlV w' g L := fun j x hx => cell_kept hb (h j x hx)
theorem SlV.grw {w w' : World} {g : Nat} {L : List Value} {v v' : Value} (h : SlV w g L) (hne : v.ownBlock ≠ some g) (hg : Grw w w' v v') : SlV w' g L := fun j x hx => hg.kept _ _ (h j x hx) (fun e => hne e.symm)
theorem ne_grw {w w' : World} {g : Nat} {v v' : Value} (hne : v.ownBlock ≠ some g) (hg : Grw w w' v v') (hlt : g < w.heap.size) : v'.ownBlock ≠ some g := by
  rcases hg.at_ with e | e
  · rw [e]; exact hne
  · rw [e]; intro h; have := Option.some.inj h; omega

def ctF (c : Ctl) : List (Bool × List UInt8) := [(c.ns, nsS.data.toList), (c.nc, ncS.data.toList), (c.pv, pvS.data.toList), (c.pu, puS.data.toList), (c.mc, mrS.data.toList), (c.oi, oiS.data.toList)]
def ctM (c : Ctl) : List (Int × List UInt8) := [(c.ma, maE.data.toList), (c.sh, smE.data.toList), (c.mf, mfE.data.toList)]
def flS (p : Bool × List UInt8) : List (List UInt8) := if p.1 then [p.2] else []
def nmS (p : Int × List UInt8) : List (List UInt8) := if 0 ≤ p.1 then [p.2 ++ plainL p.1] else []
theorem ct_parts (c : Ctl) : ctL c = (ctF c).flatMap flS ++ (ctM c).flatMap nmS := by
  unfold ctL ctF ctM
  simp [flS, nmS]
theorem fm_take {α : Type} (f : α → List (List UInt8)) (L : List α) (k : Nat) (h : k < L.length) : (L.take (k + 1)).flatMap f = (L.take k).flatMap f ++ f L[k] := by
  rw [List.take_succ_eq_append_getElem h, List.flatMap_append]
  simp
theorem fl_len (L : List (Bool × List UInt8)) : (L.flatMap flS).length ≤ L.length := by
  induction L with
  | nil => exact Nat.le_refl _
  | cons p L ih =>
    rw [List.flatMap_cons, List.length_append, List.length_cons]
    have : (flS p).length ≤ 1 := by unfold flS; split <;> simp
    omega
theorem nm_len (L : List (Int × List UInt8)) : (L.flatMap nmS).length ≤ L.length := by
  induction L with
  | nil => exact Nat.le_refl _
  | cons p L ih =>
    rw [List.flatMap_cons, List.length_append, List.length_cons]
    have : (nmS p).length ≤ 1 := by unfold nmS; split <;> simp
    omega

set_option maxHeartbeats 16000000 in
set_option maxRecDepth 100000 in
theorem r_ctlPrint (c : Ctl) (h1 : -9223372036854775808 ≤ c.ma ∧ c.ma ≤ 9223372036854775807) (h2 : -9223372036854775808 ≤ c.sh ∧ c.sh ≤ 9223372036854775807) (h3 : -9223372036854775808 ≤ c.mf ∧ c.mf ≤ 9223372036854775807) (w : World) :
    Calls Tryd.prog 7 #[.agg (ctC c)] w fun e w' => e = .returned (.string (ctS c)) ∧ Below w.heap.size w w' := by
  have hS : ctS c = mkS (Lib.join ((ctF c).flatMap flS ++ (ctM c).flatMap nmS) [44, 32]) := by unfold ctS; rw [ct_parts]
  rw [hS]
  have hFl : (ctF c).length = 6 := rfl
  have hMl : (ctM c).length = 3 := rfl
  have hMb : ∀ p ∈ ctM c, (-9223372036854775808 ≤ p.1 ∧ p.1 ≤ 9223372036854775807) ∧ p.2.length ≤ 100 := fun p hp => by
    simp only [ctM, List.mem_cons, List.not_mem_nil, or_false] at hp
    rcases hp with rfl | rfl | rfl
    · exact ⟨h1, by dsimp only; decide⟩
    · exact ⟨h2, by dsimp only; decide⟩
    · exact ⟨h3, by dsimp only; decide⟩
  have hFb : ∀ p ∈ ctF c, p.2.length ≤ 100 := fun p hp => by
    simp only [ctF, List.mem_cons, List.not_mem_nil, or_false] at hp
    rcases hp with rfl | rfl | rfl | rfl | rfl | rfl <;> (dsimp only; decide)
  obtain ⟨ns, nc, pv, pu, mc, oi, ma, sh, mf⟩ := c
  have hN1 : ∀ j x, ((ctF ⟨ns, nc, pv, pu, mc, oi, ma, sh, mf⟩).map fun p => (.string (mkS p.2) : Value))[j]? = some x → (#[.string ⟨#[110, 111, 45, 115, 116, 111, 114, 101]⟩, .string ⟨#[110, 111, 45, 99, 97, 99, 104, 101]⟩, .string ⟨#[112, 114, 105, 118, 97, 116, 101]⟩, .string ⟨#[112, 117, 98, 108, 105, 99]⟩, .string ⟨#[109, 117, 115, 116, 45, 114, 101, 118, 97, 108, 105, 100, 97, 116, 101]⟩, .string ⟨#[111, 110, 108, 121, 45, 105, 102, 45, 99, 97, 99, 104, 101, 100]⟩] : Array Value)[j]? = some x := fun j x hx => by
    have e : ((ctF ⟨ns, nc, pv, pu, mc, oi, ma, sh, mf⟩).map fun p => (.string (mkS p.2) : Value)) = (#[.string ⟨#[110, 111, 45, 115, 116, 111, 114, 101]⟩, .string ⟨#[110, 111, 45, 99, 97, 99, 104, 101]⟩, .string ⟨#[112, 114, 105, 118, 97, 116, 101]⟩, .string ⟨#[112, 117, 98, 108, 105, 99]⟩, .string ⟨#[109, 117, 115, 116, 45, 114, 101, 118, 97, 108, 105, 100, 97, 116, 101]⟩, .string ⟨#[111, 110, 108, 121, 45, 105, 102, 45, 99, 97, 99, 104, 101, 100]⟩] : Array Value).toList := rfl
    rw [e, Array.getElem?_toList] at hx
    exact hx
  have hF1 : ∀ j x, ((ctF ⟨ns, nc, pv, pu, mc, oi, ma, sh, mf⟩).map fun p => (.bool p.1 : Value))[j]? = some x → (#[.bool ns, .bool nc, .bool pv, .bool pu, .bool mc, .bool oi] : Array Value)[j]? = some x := fun j x hx => by
    have e : ((ctF ⟨ns, nc, pv, pu, mc, oi, ma, sh, mf⟩).map fun p => (.bool p.1 : Value)) = (#[.bool ns, .bool nc, .bool pv, .bool pu, .bool mc, .bool oi] : Array Value).toList := rfl
    rw [e, Array.getElem?_toList] at hx
    exact hx
  have hT1 : ∀ j x, ((ctM ⟨ns, nc, pv, pu, mc, oi, ma, sh, mf⟩).map fun p => (.string (mkS p.2) : Value))[j]? = some x → (#[.string ⟨#[109, 97, 120, 45, 97, 103, 101, 61]⟩, .string ⟨#[115, 45, 109, 97, 120, 97, 103, 101, 61]⟩, .string ⟨#[109, 105, 110, 45, 102, 114, 101, 115, 104, 61]⟩] : Array Value)[j]? = some x := fun j x hx => by
    have e : ((ctM ⟨ns, nc, pv, pu, mc, oi, ma, sh, mf⟩).map fun p => (.string (mkS p.2) : Value)) = (#[.string ⟨#[109, 97, 120, 45, 97, 103, 101, 61]⟩, .string ⟨#[115, 45, 109, 97, 120, 97, 103, 101, 61]⟩, .string ⟨#[109, 105, 110, 45, 102, 114, 101, 115, 104, 61]⟩] : Array Value).toList := rfl
    rw [e, Array.getElem?_toList] at hx
    exact hx
  have hI1 : ∀ j x, ((ctM ⟨ns, nc, pv, pu, mc, oi, ma, sh, mf⟩).map fun p => (.int .i64 p.1 : Value))[j]? = some x → (#[.int .i64 ma, .int .i64 sh, .int .i64 mf] : Array Value)[j]? = some x := fun j x hx => by
    have e : ((ctM ⟨ns, nc, pv, pu, mc, oi, ma, sh, mf⟩).map fun p => (.int .i64 p.1 : Value)) = (#[.int .i64 ma, .int .i64 sh, .int .i64 mf] : Array Value).toList := rfl
    rw [e, Array.getElem?_toList] at hx
    exact hx
  unfold ctC
  simp only
  generalize ctF ⟨ns, nc, pv, pu, mc, oi, ma, sh, mf⟩ = FL at *
  generalize ctM ⟨ns, nc, pv, pu, mc, oi, ma, sh, mf⟩ = NL at *
  obtain ⟨CV, hCV⟩ : ∃ CV, CV = ([.bool ns, .bool nc, .bool pv, .bool pu, .bool mc, .bool oi, .int .i64 ma, .int .i64 sh, .int .i64 mf] : List Value) := ⟨_, rfl⟩
  have hC1 : ∀ (j : Nat) (x : Value), CV[j]? = some x → (#[.bool ns, .bool nc, .bool pv, .bool pu, .bool mc, .bool oi, .int .i64 ma, .int .i64 sh, .int .i64 mf] : Array Value)[j]? = some x := fun j x hx => by
    have e : CV = (#[.bool ns, .bool nc, .bool pv, .bool pu, .bool mc, .bool oi, .int .i64 ma, .int .i64 sh, .int .i64 mf] : Array Value).toList := hCV
    rw [e, Array.getElem?_toList] at hx
    exact hx
  have z3 := Lib.hid (((SlV.new w 23 hC1).alloc (.cells #[.string ⟨#[110, 111, 45, 115, 116, 111, 114, 101]⟩, .string ⟨#[110, 111, 45, 99, 97, 99, 104, 101]⟩, .string ⟨#[112, 114, 105, 118, 97, 116, 101]⟩, .string ⟨#[112, 117, 98, 108, 105, 99]⟩, .string ⟨#[109, 117, 115, 116, 45, 114, 101, 118, 97, 108, 105, 100, 97, 116, 101]⟩, .string ⟨#[111, 110, 108, 121, 45, 105, 102, 45, 99, 97, 99, 104, 101, 100]⟩] 9)).alloc (.cells #[.bool ns, .bool nc, .bool pv, .bool pu, .bool mc, .bool oi] 4))
  have HCV := Lib.hid hCV
  clear hC1 hCV
  have z0 : Hid (SlV ((w.alloc (.cells #[.bool ns, .bool nc, .bool pv, .bool pu, .bool mc, .bool oi, .int .i64 ma, .int .i64 sh, .int .i64 mf] 23)).alloc (.cells #[.string ⟨#[110, 111, 45, 115, 116, 111, 114, 101]⟩, .string ⟨#[110, 111, 45, 99, 97, 99, 104, 101]⟩, .string ⟨#[112, 114, 105, 118, 97, 116, 101]⟩, .string ⟨#[112, 117, 98, 108, 105, 99]⟩, .string ⟨#[109, 117, 115, 116, 45, 114, 101, 118, 97, 108, 105, 100, 97, 116, 101]⟩, .string ⟨#[111, 110, 108, 121, 45, 105, 102, 45, 99, 97, 99, 104, 101, 100]⟩] 9)) (w.heap.size + 1) (FL.map fun p => .string (mkS p.2))) := by
    have := SlV.new (w.alloc (.cells #[.bool ns, .bool nc, .bool pv, .bool pu, .bool mc, .bool oi, .int .i64 ma, .int .i64 sh, .int .i64 mf] 23)) 9 hN1
    rwa [show (w.alloc (.cells #[.bool ns, .bool nc, .bool pv, .bool pu, .bool mc, .bool oi, .int .i64 ma, .int .i64 sh, .int .i64 mf] 23)).heap.size = w.heap.size + 1 by simp] at this
  have z1 : Hid (SlV (((w.alloc (.cells #[.bool ns, .bool nc, .bool pv, .bool pu, .bool mc, .bool oi, .int .i64 ma, .int .i64 sh, .int .i64 mf] 23)).alloc (.cells #[.string ⟨#[110, 111, 45, 115, 116, 111, 114, 101]⟩, .string ⟨#[110, 111, 45, 99, 97, 99, 104, 101]⟩, .string ⟨#[112, 114, 105, 118, 97, 116, 101]⟩, .string ⟨#[112, 117, 98, 108, 105, 99]⟩, .string ⟨#[109, 117, 115, 116, 45, 114, 101, 118, 97, 108, 105, 100, 97, 116, 101]⟩, .string ⟨#[111, 110, 108, 121, 45, 105, 102, 45, 99, 97, 99, 104, 101, 100]⟩] 9)).alloc (.cells #[.bool ns, .bool nc, .bool pv, .bool pu, .bool mc, .bool oi] 4)) (w.heap.size + 2) (FL.map fun p => .bool p.1)) := by
    have := SlV.new ((w.alloc (.cells #[.bool ns, .bool nc, .bool pv, .bool pu, .bool mc, .bool oi, .int .i64 ma, .int .i64 sh, .int .i64 mf] 23)).alloc (.cells #[.string ⟨#[110, 111, 45, 115, 116, 111, 114, 101]⟩, .string ⟨#[110, 111, 45, 99, 97, 99, 104, 101]⟩, .string ⟨#[112, 114, 105, 118, 97, 116, 101]⟩, .string ⟨#[112, 117, 98, 108, 105, 99]⟩, .string ⟨#[109, 117, 115, 116, 45, 114, 101, 118, 97, 108, 105, 100, 97, 116, 101]⟩, .string ⟨#[111, 110, 108, 121, 45, 105, 102, 45, 99, 97, 99, 104, 101, 100]⟩] 9)) 4 hF1
    rwa [show ((w.alloc (.cells #[.bool ns, .bool nc, .bool pv, .bool pu, .bool mc, .bool oi, .int .i64 ma, .int .i64 sh, .int .i64 mf] 23)).alloc (.cells #[.string ⟨#[110, 111, 45, 115, 116, 111, 114, 101]⟩, .string ⟨#[110, 111, 45, 99, 97, 99, 104, 101]⟩, .string ⟨#[112, 114, 105, 118, 97, 116, 101]⟩, .string ⟨#[112, 117, 98, 108, 105, 99]⟩, .string ⟨#[109, 117, 115, 116, 45, 114, 101, 118, 97, 108, 105, 100, 97, 116, 101]⟩, .string ⟨#[111, 110, 108, 121, 45, 105, 102, 45, 99, 97, 99, 104, 101, 100]⟩] 9)).heap.size = w.heap.size + 2 by simp] at this
  have z2 := Lib.hid (z0.out.alloc (.cells #[.bool ns, .bool nc, .bool pv, .bool pu, .bool mc, .bool oi] 4))
  have hb0 : Below w.heap.size w (w.alloc (.cells #[.bool ns, .bool nc, .bool pv, .bool pu, .bool mc, .bool oi, .int .i64 ma, .int .i64 sh, .int .i64 mf] 23)) := (Below.refl _ _).alloc (Nat.le_refl _) _
  have hb1 := hb0.alloc hb0.size (.cells #[.string ⟨#[110, 111, 45, 115, 116, 111, 114, 101]⟩, .string ⟨#[110, 111, 45, 99, 97, 99, 104, 101]⟩, .string ⟨#[112, 114, 105, 118, 97, 116, 101]⟩, .string ⟨#[112, 117, 98, 108, 105, 99]⟩, .string ⟨#[109, 117, 115, 116, 45, 114, 101, 118, 97, 108, 105, 100, 97, 116, 101]⟩, .string ⟨#[111, 110, 108, 121, 45, 105, 102, 45, 99, 97, 99, 104, 101, 100]⟩] 9)
  have HB2 := Lib.hid (hb1.alloc hb1.size (.cells #[.bool ns, .bool nc, .bool pv, .bool pu, .bool mc, .bool oi] 4))
  have hsz : w.heap.size + 3 ≤ (((w.alloc (.cells #[.bool ns, .bool nc, .bool pv, .bool pu, .bool mc, .bool oi, .int .i64 ma, .int .i64 sh, .int .i64 mf] 23)).alloc (.cells #[.string ⟨#[110, 111, 45, 115, 116, 111, 114, 101]⟩, .string ⟨#[110, 111, 45, 99, 97, 99, 104, 101]⟩, .string ⟨#[112, 114, 105, 118, 97, 116, 101]⟩, .string ⟨#[112, 117, 98, 108, 105, 99]⟩, .string ⟨#[109, 117, 115, 116, 45, 114, 101, 118, 97, 108, 105, 100, 97, 116, 101]⟩, .string ⟨#[111, 110, 108, 121, 45, 105, 102, 45, 99, 97, 99, 104, 101, 100]⟩] 9)).alloc (.cells #[.bool ns, .bool nc, .bool pv, .bool pu, .bool mc, .bool oi] 4)).heap.size := by simp
  have HSZ := Lib.hid hsz
  have HT1 := Lib.hid hT1
  have HI1 := Lib.hid hI1
  clear hb0 hb1 hsz z0 hN1 hF1 hT1 hI1 h1 h2 h3 hS
  go_enter Tryd.func7, Tryd.ntmps7
  go_wp2_with fail
  go_loopw [5, 6] (fun v i wr => ∃ k : Nat, k ≤ 6 ∧ i = .int .i64 (k : Int) ∧ Hid (OwnS wr w.heap.size 9 v ((FL.take k).flatMap flS)) ∧ Hid (SlV wr (w.heap.size + 1) (FL.map fun p => .string (mkS p.2))) ∧ Hid (SlV wr (w.heap.size + 2) (FL.map fun p => .bool p.1)) ∧ Hid (SlV wr w.heap.size CV) ∧ Hid (v.ownBlock ≠ some (w.heap.size + 1) ∧ v.ownBlock ≠ some (w.heap.size + 2) ∧ v.ownBlock ≠ some w.heap.size) ∧ Below w.heap.size w wr ∧ w.heap.size + 3 ≤ wr.heap.size) (fun _ i _ => 6 - (intOf i).toNat)
  case atStart => exact ⟨0, Nat.zero_le _, rfl, OwnS.nil _ _ _, z2.out, z1.out, z3.out, ⟨by simp [Value.ownBlock], by simp [Value.ownBlock], by simp [Value.ownBlock]⟩, HB2.out, HSZ.out⟩
  case round =>
    clear z1 z2 z3 HB2 HSZ
    obtain ⟨k, hk, rfl, hown, hz1, hz2, hz3, hne, hbel, hsz⟩ := hrel
    by_cases hlt : k < 6
    · have hkF : k < FL.length := by omega
      have hcS := hz1.out k (.string (mkS FL[k].2)) (by rw [List.getElem?_map, List.getElem?_eq_getElem hkF]; rfl)
      have hcB := hz2.out k (.bool FL[k].1) (by rw [List.getElem?_map, List.getElem?_eq_getElem hkF]; rfl)
      have hcS' := hcS
      have hcB' := hcB
      rw [← addr_add] at hcS' hcB'
      have hst := fm_take flS FL k hkF
      have hXl : ((FL.take k).flatMap flS).length ≤ 6 := Nat.le_trans (fl_len _) (by rw [List.length_take]; omega)
      have hfb := hFb _ (List.getElem_mem hkF)
      generalize FL[k] = p at *
      obtain ⟨fl, nm⟩ := p
      simp only at hcS hcB hcS' hcB' hst hfb
      generalize (FL.take k).flatMap flS = X at *
      obtain ⟨ms, hms⟩ : ∃ ms, ms = mkS nm := ⟨_, rfl⟩
      have hmd : ms.data.toList = nm := by rw [hms, mkS_list]
      rw [← hms] at hcS hcS'
      have hi0 : (0 : Int) ≤ (k : Int) := by omega
      have hi1 : (k : Int) < 6 := by omega
      clear hms
      cases fl with
      | true =>
        have HS : Hid ((FL.take (k + 1)).flatMap flS = X ++ [ms.data.toList]) := by show _ = _; rw [hst, hmd]; rfl
        clear hst
        go_wp2_with (at_builtin; refine wpList_append_sls2 rfl _ _ _ rfl w.heap.size 9 Tryd.underlying32 (by kernel_rfl) _ rfl X (hown.out.alloc _) _ _ _ rfl [ms.data.toList] (SlS.textAt _ _ ms rfl) (by simp; omega) (by simp; omega) w (hbel.alloc hbel.size _) (.slice none 0 0) [] (OwnS.nil _ _ _) (Apt.none_ _) ?_; intro v1 w2 ho2 _ _ hb2 hs2 hg2)
        go_roundw
        case rel =>
          have hsa : (wr.alloc (.cells #[.string ms] 9)).heap.size = wr.heap.size + 1 := by simp
          exact ⟨k + 1, by omega, by go_num, by show OwnS _ _ _ _ _; rw [HS.out]; exact ho2.out, (hz1.out.alloc _).grw hne.out.1 hg2.out, (hz2.out.alloc _).grw hne.out.2.1 hg2.out, (hz3.out.alloc _).grw hne.out.2.2 hg2.out, ⟨ne_grw hne.out.1 hg2.out (by omega), ne_grw hne.out.2.1 hg2.out (by omega), ne_grw hne.out.2.2 hg2.out (by omega)⟩, hb2, by omega⟩
        case measure => simp [intOf]; omega
      | false =>
        have HS : Hid ((FL.take (k + 1)).flatMap flS = X) := by show _ = _; rw [hst]; simp [flS]
        clear hst
        go_wp2_with fail
        go_roundw
        case rel => exact ⟨k + 1, by omega, by go_num, by show OwnS _ _ _ _ _; rw [HS.out]; exact hown.out, hz1, hz2, hz3, hne, hbel, hsz⟩
        case measure => simp [intOf]; omega
    · generalize wr = wq at *
      rw [List.take_of_length_le (show FL.length ≤ k by omega)] at hown
      have hXl : (FL.flatMap flS).length ≤ 6 := Nat.le_trans (fl_len _) (by omega)
      have HZ : Hid (∀ x ∈ FL.flatMap flS ++ NL.flatMap nmS, x.length ≤ 10000) := fun x hx => by
        rcases List.mem_append.1 hx with h | h
        · obtain ⟨p, hp, hq⟩ := List.mem_flatMap.1 h
          have := hFb p hp
          unfold flS at hq
          split at hq
          · rw [List.mem_singleton] at hq; rw [hq]; omega
          · cases hq
        · obtain ⟨p, hp, hq⟩ := List.mem_flatMap.1 h
          have := hMb p hp
          have h5 := plainL_short p.1 this.1.1 this.1.2
          unfold nmS at hq
          split at hq
          · rw [List.mem_singleton] at hq; rw [hq, List.length_append]; omega
          · cases hq
      generalize hXF : FL.flatMap flS = XF at *
      have HXF := Lib.hid hXF
      clear hXF
      have hlt4 := fun q hq => (World.ownsRow.lt hown.out q hq).2
      have hc6 : ∀ o, (wq.alloc o).cell? ⟨w.heap.size, 6, none⟩ = some (.int .i64 ma) := fun o => hz3.out.alloc o 6 _ (by rw [HCV.out]; rfl)
      have hc7 : ∀ o, (wq.alloc o).cell? ⟨w.heap.size, 7, none⟩ = some (.int .i64 sh) := fun o => hz3.out.alloc o 7 _ (by rw [HCV.out]; rfl)
      have hc8 : ∀ o, (wq.alloc o).cell? ⟨w.heap.size, 8, none⟩ = some (.int .i64 mf) := fun o => hz3.out.alloc o 8 _ (by rw [HCV.out]; rfl)
      have x6 := hc6 (.cells #[.string ⟨#[109, 97, 120, 45, 97, 103, 101, 61]⟩, .string ⟨#[115, 45, 109, 97, 120, 97, 103, 101, 61]⟩, .string ⟨#[109, 105, 110, 45, 102, 114, 101, 115, 104, 61]⟩] 9)
      have x7 := hc7 (.cells #[.string ⟨#[109, 97, 120, 45, 97, 103, 101, 61]⟩, .string ⟨#[115, 45, 109, 97, 120, 97, 103, 101, 61]⟩, .string ⟨#[109, 105, 110, 45, 102, 114, 101, 115, 104, 61]⟩] 9)
      have x8 := hc8 (.cells #[.string ⟨#[109, 97, 120, 45, 97, 103, 101, 61]⟩, .string ⟨#[115, 45, 109, 97, 120, 97, 103, 101, 61]⟩, .string ⟨#[109, 105, 110, 45, 102, 114, 101, 115, 104, 61]⟩] 9)
      have Y1 := Lib.hid ((SlV.new wq 9 HT1.out).alloc (.cells #[.int .i64 ma, .int .i64 sh, .int .i64 mf] 3))
      have y2 := SlV.new (wq.alloc (.cells #[.string ⟨#[109, 97, 120, 45, 97, 103, 101, 61]⟩, .string ⟨#[115, 45, 109, 97, 120, 97, 103, 101, 61]⟩, .string ⟨#[109, 105, 110, 45, 102, 114, 101, 115, 104, 61]⟩] 9)) 3 HI1.out
      rw [show (wq.alloc (.cells #[.string ⟨#[109, 97, 120, 45, 97, 103, 101, 61]⟩, .string ⟨#[115, 45, 109, 97, 120, 97, 103, 101, 61]⟩, .string ⟨#[109, 105, 110, 45, 102, 114, 101, 115, 104, 61]⟩] 9)).heap.size = wq.heap.size + 1 by simp] at y2
      have Y2 := Lib.hid y2
      have hb3 := hbel.alloc hbel.size (.cells #[.string ⟨#[109, 97, 120, 45, 97, 103, 101, 61]⟩, .string ⟨#[115, 45, 109, 97, 120, 97, 103, 101, 61]⟩, .string ⟨#[109, 105, 110, 45, 102, 114, 101, 115, 104, 61]⟩] 9)
      have HB4 := Lib.hid (hb3.alloc hb3.size (.cells #[.int .i64 ma, .int .i64 sh, .int .i64 mf] 3))
      have HO4 := Lib.hid ((hown.out.alloc (.cells #[.string ⟨#[109, 97, 120, 45, 97, 103, 101, 61]⟩, .string ⟨#[115, 45, 109, 97, 120, 97, 103, 101, 61]⟩, .string ⟨#[109, 105, 110, 45, 102, 114, 101, 115, 104, 61]⟩] 9)).alloc (.cells #[.int .i64 ma, .int .i64 sh, .int .i64 mf] 3))
      have HSZ4 : Hid (wq.heap.size + 2 ≤ ((wq.alloc (.cells #[.string ⟨#[109, 97, 120, 45, 97, 103, 101, 61]⟩, .string ⟨#[115, 45, 109, 97, 120, 97, 103, 101, 61]⟩, .string ⟨#[109, 105, 110, 45, 102, 114, 101, 115, 104, 61]⟩] 9)).alloc (.cells #[.int .i64 ma, .int .i64 sh, .int .i64 mf] 3)).heap.size) := by show _ ≤ _; simp
      have HNE : Hid (∀ q, q = wq.heap.size ∨ q = wq.heap.size + 1 → ∀ b, b < wq.heap.size → some b ≠ some q) := fun q hq b hb he => by have := Option.some.inj he; omega
      have hi1 : ¬ (k : Int) < 6 := by omega
      clear hc6 hc7 hc8 hz1 hz2 hz3 hne y2 hb3 HT1 HI1 HCV hown
      go_wp2_with fail
      go_loopw [5, 9] (fun u i wi => ∃ j : Nat, j ≤ 3 ∧ i = .int .i64 (j : Int) ∧ Hid (OwnS wi w.heap.size 9 u (XF ++ (NL.take j).flatMap nmS)) ∧ Hid (SlV wi wq.heap.size (NL.map fun p => .string (mkS p.2))) ∧ Hid (SlV wi (wq.heap.size + 1) (NL.map fun p => .int .i64 p.1)) ∧ Hid (u.ownBlock ≠ some wq.heap.size ∧ u.ownBlock ≠ some (wq.heap.size + 1)) ∧ Below w.heap.size w wi ∧ wq.heap.size + 2 ≤ wi.heap.size) (fun _ i _ => 3 - (intOf i).toNat)
      case atStart => exact ⟨0, Nat.zero_le _, rfl, by show OwnS _ _ _ _ _; rw [List.take_zero, List.flatMap_nil, List.append_nil]; exact HO4.out, Y1.out, Y2.out, ⟨fun e => by have := hlt4 _ e; omega, fun e => by have := hlt4 _ e; omega⟩, HB4.out, HSZ4.out⟩
      case round =>
        clear Y1 Y2 HO4 HB4 HSZ4 HNE hlt4 x6 x7 x8
        obtain ⟨j, hj, rfl, hown, hz1, hz2, hne, hbel, hsz⟩ := hrel
        by_cases hlt : j < 3
        · have hkF : j < NL.length := by omega
          have hcS := hz1.out j (.string (mkS NL[j].2)) (by rw [List.getElem?_map, List.getElem?_eq_getElem hkF]; rfl)
          have hcB := hz2.out j (.int .i64 NL[j].1) (by rw [List.getElem?_map, List.getElem?_eq_getElem hkF]; rfl)
          have hcS' := hcS
          have hcB' := hcB
          rw [← addr_add] at hcS' hcB'
          have hst := fm_take nmS NL j hkF
          have hYl : (XF ++ (NL.take j).flatMap nmS).length ≤ 9 := by
            have := nm_len (NL.take j)
            rw [List.length_take] at this
            rw [List.length_append]; omega
          have hfb := hMb _ (List.getElem_mem hkF)
          generalize NL[j] = p at *
          obtain ⟨num, nm⟩ := p
          simp only at hcS hcB hcS' hcB' hst hfb
          obtain ⟨X, hX⟩ : ∃ X, X = XF ++ (NL.take j).flatMap nmS := ⟨_, rfl⟩
          have HX : Hid (XF ++ (NL.take (j + 1)).flatMap nmS = X ++ nmS (num, nm)) := by show _ = _; rw [hst, hX, List.append_assoc]
          rw [← hX] at hown hYl
          obtain ⟨ms, hms⟩ : ∃ ms, ms = mkS nm := ⟨_, rfl⟩
          have hmd : ms.data.toList = nm := by rw [hms, mkS_list]
          have hmz : ms.size ≤ 100 := by rw [hms, mkS_size]; exact hfb.2
          rw [← hms] at hcS hcS'
          have hi0 : (0 : Int) ≤ (j : Int) := by omega
          have hi1 : (j : Int) < 3 := by omega
          have CPl := Lib.hid (fun W => r_plain num hfb.1.1 hfb.1.2 W)
          have hpz : (mkS (plainL num)).size ≤ 20 := by rw [mkS_size]; exact plainL_short num hfb.1.1 hfb.1.2
          clear hms hX hst
          by_cases hnum : 0 ≤ num
          · have HS : Hid (nmS (num, nm) = [(ms ++ mkS (plainL num)).data.toList]) := by show _ = _; unfold nmS; rw [if_pos hnum, append_list, mkS_list, hmd]
            generalize mkS (plainL num) = D at *
            have k1 : ¬ 9223372036854775807 < ms.size + D.size := by omega
            have HO := Lib.hid hown.out.drew
            have HB := Lib.hid hbel.drew
            have G1 : Hid (SlV wr.drew wq.heap.size (NL.map fun p => .string (mkS p.2))) := hz1.out
            have G2 : Hid (SlV wr.drew (wq.heap.size + 1) (NL.map fun p => .int .i64 p.1)) := hz2.out
            have HC : Hid (wr.drew.cell? ⟨wq.heap.size, j, none⟩ = some (.string ms) ∧ wr.drew.cell? ⟨wq.heap.size + 1, j, none⟩ = some (.int .i64 num) ∧ wr.drew.cell? ((⟨wq.heap.size, 0, none⟩ : Addr).add j) = some (.string ms) ∧ wr.drew.cell? ((⟨wq.heap.size + 1, 0, none⟩ : Addr).add j) = some (.int .i64 num)) := ⟨hcS, hcB, hcS', hcB'⟩
            have HSZ : Hid (wq.heap.size + 2 ≤ wr.drew.heap.size) := hsz
            clear hown hz1 hz2 hbel hsz hfb hpz
            go_wp2_with fail
            go_region_held3 (fun W => W.cell? ⟨wq.heap.size, j, none⟩ = some (.string ms) ∧ W.cell? ⟨wq.heap.size + 1, j, none⟩ = some (.int .i64 num) ∧ W.cell? ((⟨wq.heap.size, 0, none⟩ : Addr).add j) = some (.string ms) ∧ W.cell? ((⟨wq.heap.size + 1, 0, none⟩ : Addr).add j) = some (.int .i64 num)) (first | go_keep | exact HC.out) (first
              | (go_at_call 17; refine (CPl.out _).mono ?_; rintro e w3 ⟨rfl, hb3⟩; have HO := Lib.hid (HO.out.below hb3); have G1 := Lib.hid (G1.out.below hb3); have G2 := Lib.hid (G2.out.below hb3); have HC := Lib.hid (show w3.cell? _ = _ ∧ w3.cell? _ = _ ∧ w3.cell? _ = _ ∧ w3.cell? _ = _ from ⟨cell_kept hb3 HC.out.1, cell_kept hb3 HC.out.2.1, cell_kept hb3 HC.out.2.2.1, cell_kept hb3 HC.out.2.2.2⟩); have HB := Lib.hid (below_then HB.out hb3); have HSZ := Lib.hid (Nat.le_trans HSZ.out hb3.size); clear hb3)
              | (refine step_append_sls (by rfl) _ _ 32 (by rfl) w.heap.size 9 Tryd.underlying32 (by kernel_rfl) _ (by rfl) X (HO.out.alloc _) _ 1 1 (by rfl) [(ms ++ D).data.toList] (SlS.textAt _ _ (ms ++ D) rfl) (by omega) (by simp; omega) (Nat.le_trans HB.out.size (by simp)) w (HB.out.alloc HB.out.size _) ?_; intro v2 w4 ho4 hb4 hs4 hg4; have q1 := hg4.out.kept _ _ (Lib.cell?_alloc_some (.cells #[.string (ms ++ D)] 9) HC.out.1) (fun e => hne.out.1 e.symm); have q2 := hg4.out.kept _ _ (Lib.cell?_alloc_some (.cells #[.string (ms ++ D)] 9) HC.out.2.1) (fun e => hne.out.2 e.symm); have q3 : w4.cell? ((⟨wq.heap.size, 0, none⟩ : Addr).add j) = some (.string ms) := (by rw [addr_add]; exact q1); have q4 : w4.cell? ((⟨wq.heap.size + 1, 0, none⟩ : Addr).add j) = some (.int .i64 num) := (by rw [addr_add]; exact q2); have HC := Lib.hid (And.intro q1 (And.intro q2 (And.intro q3 q4))); clear q1 q2 q3 q4))
            go_wp2_with fail
            go_roundw
            case rel =>
              have hsa : (w3.alloc (.cells #[.string (ms ++ D)] 9)).heap.size = w3.heap.size + 1 := by simp
              have hz := HSZ.out
              exact ⟨j + 1, by omega, by go_num, by show OwnS _ _ _ _ _; rw [HX.out, HS.out]; exact ho4.out, (G1.out.alloc _).grw hne.out.1 hg4.out, (G2.out.alloc _).grw hne.out.2 hg4.out, ⟨ne_grw hne.out.1 hg4.out (by omega), ne_grw hne.out.2 hg4.out (by omega)⟩, hb4, by omega⟩
            case measure => simp [intOf]; omega
          · have HS : Hid (XF ++ (NL.take (j + 1)).flatMap nmS = X) := by show _ = _; rw [HX.out]; unfold nmS; rw [if_neg hnum, List.append_nil]
            clear CPl hpz
            go_wp2_with fail
            go_roundw
            case rel => exact ⟨j + 1, by omega, by go_num, by show OwnS _ _ _ _ _; rw [HS.out]; exact hown.out, hz1, hz2, hne, hbel, hsz⟩
            case measure => simp [intOf]; omega
        · rw [List.take_of_length_le (show NL.length ≤ j by omega)] at hown
          have hZl : (XF ++ NL.flatMap nmS).length ≤ 9 := by
            have := nm_len NL
            rw [List.length_append]; omega
          have hZz : ∀ x ∈ XF ++ NL.flatMap nmS, x.length ≤ 10000 := HZ.out
          obtain ⟨A2, c2, e2, hA2, _⟩ := hown.out.sls
          subst e2
          have CJ := Lib.hid (r_join A2 _ c2 _ wr hA2 (by omega) hZz)
          generalize (XF ++ NL.flatMap nmS).length = n at *
          have hi1 : ¬ (j : Int) < 3 := by omega
          clear hown hz1 hz2 hne hZz hZl hA2
          go_wp2_with fail
          refine CJ.out.mono ?_
          rintro e w3 ⟨rfl, rfl⟩
          go_wp2_with fail
          go_ret
          exact ⟨by rw [HXF.out]; rfl, hbel⟩

end Go.Proofs.YtmpiahahhkimkaaDoor
end

/-
  Contracts of package control's reader: a table of directives with their effects, and what an element does to what was read.
-/
section
namespace Go.Proofs.YtmpiahahhkimkaaDoor
open Go.RowKit

/-- The cells of a reader. -/
def rdC (D : Nat) (c : Ctl) : Array Value := #[.slice (some ⟨D, 0, none⟩) 10 10, .bool c.ns, .bool c.nc, .bool c.pv, .bool c.pu, .bool c.mc, .bool c.oi, .int .i64 c.ma, .int .i64 c.sh, .int .i64 c.mf]
/-- The table's cells. -/
def tabC : List Value := [.string nsS, .func (.func 29) #[] #[], .string ncS, .func (.func 30) #[] #[], .string pvS, .func (.func 31) #[] #[], .string puS, .func (.func 32) #[] #[], .string mrS, .func (.func 33) #[] #[], .string xrS, .func (.func 34) #[] #[], .string oiS, .func (.func 35) #[] #[], .string maS, .func (.func 36) #[] #[], .string smS, .func (.func 38) #[] #[], .string mfS, .func (.func 39) #[] #[]]

/-- An effect. -/
def EffOk (k g : Nat) : Prop := ∀ (R D : Nat) (c : Ctl) (v : ByteArray) (w : World), w.heap[R]? = some (.cells (rdC D c) 49 (0, 0)) →
  Calls Tryd.prog g #[.pointer (some ⟨R, 1, none⟩), .string v] w fun e w' => e = .returned (.tuple #[]) ∧ ButB R w w' ∧ w'.heap[R]? = some (.cells (rdC D (effC k c v.data.toList)) 49 (0, 0))
theorem tab_row (k : Nat) (hk : k < 10) : ∃ g : Nat, tabC[k * 2]? = some (.string (rowN k)) ∧ tabC[k * 2 + 1]? = some (.func (.func g) #[] #[]) ∧ (∀ args W, (callFunc g args).run Tryd.prog W = .ok (.enter g args) W) ∧ EffOk k g := by
  rcases k with _ | _ | _ | _ | _ | _ | _ | _ | _ | _ | k
  · exact ⟨29, rfl, rfl, Go.Proofs.enters_of Tryd.func29 (by kernel_rfl) rfl, fun R D c v w h => eff1_any R _ _ _ _ _ _ _ _ _ _ _ _ v w h⟩
  · exact ⟨30, rfl, rfl, Go.Proofs.enters_of Tryd.func30 (by kernel_rfl) rfl, fun R D c v w h => eff2_any R _ _ _ _ _ _ _ _ _ _ _ _ v w h⟩
  · exact ⟨31, rfl, rfl, Go.Proofs.enters_of Tryd.func31 (by kernel_rfl) rfl, fun R D c v w h => eff3_any R _ _ _ _ _ _ _ _ _ _ _ _ v w h⟩
  · exact ⟨32, rfl, rfl, Go.Proofs.enters_of Tryd.func32 (by kernel_rfl) rfl, fun R D c v w h => eff4_any R _ _ _ _ _ _ _ _ _ _ _ _ v w h⟩
  · exact ⟨33, rfl, rfl, Go.Proofs.enters_of Tryd.func33 (by kernel_rfl) rfl, fun R D c v w h => eff5_any R _ _ _ _ _ _ _ _ _ _ _ _ v w h⟩
  · exact ⟨34, rfl, rfl, Go.Proofs.enters_of Tryd.func34 (by kernel_rfl) rfl, fun R D c v w h => eff6_any R _ _ _ _ _ _ _ _ _ _ _ _ v w h⟩
  · exact ⟨35, rfl, rfl, Go.Proofs.enters_of Tryd.func35 (by kernel_rfl) rfl, fun R D c v w h => eff7_any R _ _ _ _ _ _ _ _ _ _ _ _ v w h⟩
  · exact ⟨36, rfl, rfl, Go.Proofs.enters_of Tryd.func36 (by kernel_rfl) rfl, fun R D c v w h => eff8_any R _ _ _ _ _ _ _ _ _ _ _ _ v w h⟩
  · exact ⟨38, rfl, rfl, Go.Proofs.enters_of Tryd.func38 (by kernel_rfl) rfl, fun R D c v w h => eff9_any R _ _ _ _ _ _ _ _ _ _ _ _ v w h⟩
  · exact ⟨39, rfl, rfl, Go.Proofs.enters_of Tryd.func39 (by kernel_rfl) rfl, fun R D c v w h => eff10_any R _ _ _ _ _ _ _ _ _ _ _ _ v w h⟩
  · omega

/-- Block R is a reader, with the table in block D. -/
structure Rdr (w : World) (R D : Nat) (c : Ctl) : Prop where
  row : w.heap[R]? = some (.cells (rdC D c) 49 (0, 0))
  tab : SlV w D tabC
  ne : D ≠ R
section
variable {w w' : World} {R D : Nat} {c : Ctl}
theorem Rdr.lt (h : Rdr w R D c) : R < w.heap.size := (Array.getElem?_eq_some_iff.1 h.row).1
theorem Rdr.tab_lt (h : Rdr w R D c) : D < w.heap.size := World.block_lt_of_cell? w _ (h.tab 0 _ rfl)
theorem SlV.but {g : Nat} {L : List Value} (h : SlV w g L) (hne : g ≠ R) (hb : ButB R w w') : SlV w' g L := fun j x hx => by
  have h1 := h j x hx
  exact (World.cell?_of_block (w := w) (hb.block _ (World.block_lt_of_cell? w _ h1) hne)).trans h1
theorem Rdr.but (h : Rdr w R D c) (hb : ButB R w w') {c' : Ctl} (hr : w'.heap[R]? = some (.cells (rdC D c') 49 (0, 0))) : Rdr w' R D c' := ⟨hr, h.tab.but h.ne hb, h.ne⟩
theorem Rdr.below (h : Rdr w R D c) (hb : Below w.heap.size w w') : Rdr w' R D c := ⟨zero_still hb h.row, h.tab.below hb, h.ne⟩
theorem rd_cell (h : Rdr w R D c) : w.cell? ⟨R, 0, none⟩ = some (.slice (some ⟨D, 0, none⟩) 10 10) := (rd_at h.row 0 _ rfl).1
/-- Strings lie elsewhere. -/
theorem SlS.but {A : Option Addr} {n d : Nat} {L : List (List UInt8)} (h : SlS w A n d L) (hh : Head w A) (hr : Rdr w R D c) (hb : ButB R w w') : SlS w' A n d L := by
  refine ⟨h.len, h.cap, h.cm, h.nil, fun hn => ?_⟩
  obtain ⟨ad, e, hc⟩ := h.at_ hn
  refine ⟨ad, e, fun j x hx => ?_⟩
  have h1 := hc j x hx
  have hne : ad.block ≠ R := by
    intro hR
    rcases hh with h0 | ⟨g, _, h0⟩
    · rw [h0] at e; cases e
    · rw [h0] at e
      cases e
      simp only at hR
      subst hR
      have hl := h.len
      have h2 := hc 0 L[0] (List.getElem?_eq_getElem (by omega))
      rw [addr_add, rd_cell hr] at h2
      cases h2
  exact (World.cell?_of_block (w := w) (hb.block _ (World.block_lt_of_cell? w _ h1) (by rw [add_block]; exact hne))).trans h1
theorem Head.but {A : Option Addr} (h : Head w A) (hb : ButB R w w') : Head w' A := by
  rcases h with h | ⟨g, hg, h⟩
  · exact .inl h
  · exact .inr ⟨g, Nat.lt_of_lt_of_le hg hb.size, h⟩
end

theorem rowsC_succ (d : Dv) (c : Ctl) (k : Nat) : rowsC d c (k + 1) = rowC k d (rowsC d c k) := rfl

set_option maxHeartbeats 8000000 in
set_option maxRecDepth 100000 in
theorem read_any (R D : Nat) (c : Ctl) (e : ByteArray) (w : World) (h : Rdr w R D c) (hz : e.size ≤ 100000000) :
    Calls Tryd.prog 22 #[.pointer (some ⟨R, 0, none⟩), .string e] w fun x w' => x = .returned (.tuple #[]) ∧ Rdr w' R D (readC c e.data.toList) ∧ ButB R w w' := by
  have CP := Lib.hid (param_any e w hz)
  have hrd : readC c e.data.toList = if parE e = 0 then stepC c ((parN e).data.toList, (parV e).data.toList) else c := by
    unfold readC dvO
    rw [mkS_self]
    by_cases h0 : parE e = 0
    · rw [if_pos h0, if_pos h0]
    · rw [if_neg h0, if_neg h0]
  rw [hrd]
  clear hrd hz
  generalize parE e = pe at *
  generalize parN e = pn at *
  generalize parV e = pv at *
  generalize parH e = ph at *
  have H0 := Lib.hid h
  clear h
  by_cases hpe : pe = 0
  · rw [if_pos hpe]
    subst hpe
    obtain ⟨Z, hZ⟩ : ∃ Z, Z = stepC c (pn.data.toList, pv.data.toList) := ⟨_, rfl⟩
    rw [← hZ]
    have HZ := Lib.hid hZ
    clear hZ
    go_enter Tryd.func22, Tryd.ntmps22
    go_wp2_with fail
    refine CP.out.mono ?_
    rintro x w1 ⟨rfl, hb1⟩
    have H1 := Lib.hid (H0.out.below hb1)
    have HB1 := Lib.hid hb1
    have hcs := rd_cell H1.out
    clear hb1 CP
    go_wp2_with fail
    go_loopw [24] (fun i wr => ∃ k : Nat, k ≤ 10 ∧ i = .int .i64 (k : Int) ∧ Hid (Rdr wr R D (rowsC (pn.data.toList, pv.data.toList) c k)) ∧ ButB R w1 wr) (fun i _ => 10 - (intOf i).toNat)
    case atStart => exact ⟨0, Nat.zero_le _, rfl, H1.out, ButB.refl _ _⟩
    case round =>
      clear H1 hcs
      obtain ⟨k, hk, rfl, HR, hbut⟩ := hrel
      by_cases hlt : k < 10
      · obtain ⟨g, hc0, hc1, eg, heff⟩ := tab_row k hlt
        have hs := rowsC_succ (pn.data.toList, pv.data.toList) c k
        generalize rowsC (pn.data.toList, pv.data.toList) c k = ck at *
        unfold rowC at hs
        simp only at hs
        generalize rowN k = nm at *
        have hq0 := HR.out.tab _ _ hc0
        have hq1 := HR.out.tab _ _ hc1
        clear hc0 hc1
        have hi0 : (0 : Int) ≤ (k : Int) := by omega
        have hi1 : (k : Int) < 10 := by omega
        by_cases hnm : pn.data.toList = nm.data.toList
        · rw [if_pos hnm] at hs
          have HS := Lib.hid hs
          have hnm' : (nm.toList == pn.toList) = true := by rw [Lib.toList_data, Lib.toList_data]; exact beq_iff_eq.2 hnm.symm
          have HC := Lib.hid (heff R D ck pv ((wr.alloc (.cells #[.string nm, .func (.func g) #[] #[]] 65)).drew) (zero_more HR.out.row))
          have HB2 : Hid (ButB R wr ((wr.alloc (.cells #[.string nm, .func (.func g) #[] #[]] 65)).drew)) := ButB.of_below (((Below.refl _ _).alloc (Nat.le_refl _) _).drew)
          clear hs hnm heff
          go_wp2_with fail
          go_region_law ((go_simp; refine (HC.out).mono ?_; rintro x w3 ⟨rfl, hb3, hr3⟩; have HB3 := Lib.hid hb3; have HR3 := Lib.hid hr3; clear hb3 hr3))
          all_goals
            go_wp2_with fail
            go_roundw
            case rel => exact ⟨k + 1, by omega, by go_num, by show Rdr _ _ _ _; rw [HS.out]; exact HR.out.but (HB2.out.trans HB3.out) HR3.out, hbut.trans (HB2.out.trans HB3.out)⟩
            case measure => simp [intOf]; omega
        · rw [if_neg hnm] at hs
          have HS := Lib.hid hs
          have hnm' : (nm.toList == pn.toList) = false := by rw [Lib.toList_data, Lib.toList_data]; exact beq_eq_false_iff_ne.2 (fun h => hnm h.symm)
          clear hs hnm heff
          go_wp2_with fail
          go_roundw
          case rel => exact ⟨k + 1, by omega, by go_num, by show Rdr _ _ _ _; rw [HS.out]; exact HR.out.below ((Below.refl _ _).alloc (Nat.le_refl _) _), hbut.trans (ButB.of_below ((Below.refl _ _).alloc (Nat.le_refl _) _))⟩
          case measure => simp [intOf]; omega
      · obtain rfl : k = 10 := by omega
        go_wp2_with fail
        go_end0
        exact ⟨rfl, by rw [HZ.out]; exact HR.out, (ButB.of_below HB1.out).trans hbut⟩
  · rw [if_neg hpe]
    go_enter Tryd.func22, Tryd.ntmps22
    go_wp2_with fail
    refine CP.out.mono ?_
    rintro x w1 ⟨rfl, hb1⟩
    go_wp2_with fail
    try simp only [Exit.inBlock, Exit.then]
    refine bodyPost_ret (results_none rfl _ _ _) rfl ?_
    exact ⟨rfl, H0.out.below hb1, ButB.of_below hb1⟩

end Go.Proofs.YtmpiahahhkimkaaDoor
end

/-
  Contracts of package control's directives and visit.
-/
section
namespace Go.Proofs.YtmpiahahhkimkaaDoor
open Go.RowKit

set_option maxHeartbeats 4000000 in
set_option maxRecDepth 100000 in
theorem dirs_any (w : World) :
    Calls Tryd.prog 19 #[] w fun e w' => ∃ D, w.heap.size ≤ D ∧ D < w'.heap.size ∧ e = .returned (.slice (some ⟨D, 0, none⟩) 10 10) ∧ SlV w' D tabC ∧ Below w.heap.size w w' := by
  have HT : Hid (SlV (w.alloc (.cells tabC.toArray 65)) w.heap.size tabC) := SlV.new w 65 (cs := tabC.toArray) (fun j x hx => by simpa using hx)
  have HB : Hid (Below w.heap.size w (w.alloc (.cells tabC.toArray 65))) := (Below.refl _ _).alloc (Nat.le_refl _) _
  unfold tabC nsS ncS pvS puS mrS xrS oiS maS smS mfS at HT HB ⊢
  simp only [List.toArray] at HT HB
  go_enter Tryd.func19, Tryd.ntmps19
  go_wp2_with fail
  go_ret
  exact ⟨w.heap.size, Nat.le_refl _, by simp, rfl, HT.out, HB.out⟩

theorem enters_read : ∀ args W, (callFunc 22 args).run Tryd.prog W = .ok (.enter 22 args) W := Go.Proofs.enters_of Tryd.func22 (by kernel_rfl) rfl

theorem fold_dvs_snoc (V : List (List UInt8)) (k : Nat) (h : k < V.length) (c : Ctl) : (dvs (V.take (k + 1))).foldl stepC c = (splO V[k]).foldl readC ((dvs (V.take k)).foldl stepC c) := by
  rw [dvs_snoc V k h, List.foldl_append, fold_readC]
  rfl
theorem fold_take (E : List (List UInt8)) (j : Nat) (h : j < E.length) (c : Ctl) : (E.take (j + 1)).foldl readC c = readC ((E.take j).foldl readC c) E[j] := by
  rw [List.take_succ_eq_append_getElem h, List.foldl_append]
  rfl

set_option maxHeartbeats 16000000 in
set_option maxRecDepth 100000 in
theorem visit_any (A : Option Addr) (n d : Nat) (V : List (List UInt8)) (R D : Nat) (c : Ctl) (w : World) (hS : SlS w A n d V) (hh : Head w A) (h : Rdr w R D c) (hn : n ≤ 1000) (hz : ∀ v ∈ V, v.length ≤ 10000) :
    Calls Tryd.prog 20 #[.slice A n d, .func (.func 22) #[.pointer (some ⟨R, 0, none⟩)] #[]] w fun e w' => e = .returned (.bool (fnV V)) ∧ Rdr w' R D ((dvs V).foldl stepC c) ∧ ButB R w w' := by
  have hlen := hS.len
  subst hlen
  have HS0 := Lib.hid hS
  have HH0 := Lib.hid hh
  have H0 := Lib.hid h
  have eg := enters_read
  clear hS hh h
  go_enter Tryd.func20, Tryd.ntmps20
  go_wp2_with fail
  go_loopw [14, 5] (fun i g wr => ∃ (k : Nat) (b : Bool), k ≤ V.length ∧ i = .int .i64 (k : Int) ∧ g = .bool b ∧ Hid (b = fnV (V.take k)) ∧ Hid (Rdr wr R D ((dvs (V.take k)).foldl stepC c)) ∧ ButB R w wr) (fun i _ _ => V.length - (intOf i).toNat)
  case atStart => exact ⟨0, true, Nat.zero_le _, rfl, rfl, rfl, H0.out, ButB.refl _ _⟩
  case round =>
    obtain ⟨k, b, hk, rfl, rfl, hfn, HR, hbut⟩ := hrel
    have HSr := Lib.hid (HS0.out.but HH0.out H0.out hbut)
    by_cases hlt : k < V.length
    · obtain ⟨ad, rfl, hc⟩ := HSr.out.at_ (by omega)
      have hcell := hc k V[k] (List.getElem?_eq_getElem hlt)
      have hvz := hz _ (List.getElem_mem hlt)
      have hsn := fold_dvs_snoc V k hlt c
      have hfs := fnV_snoc V k hlt
      obtain ⟨hEn, hEz⟩ := spl_sz hvz
      have CS := Lib.hid (fun W => split_any (mkS V[k]) W (by rw [mkS_size]; omega))
      rw [mkS_list] at CS
      have hse : splE V[k] = 0 ∨ splE V[k] = 5 := by
        unfold splE
        split
        · exact .inl rfl
        · exact .inr rfl
      generalize splO V[k] = E at *
      generalize splE V[k] = se at *
      generalize mkS V[k] = ms at *
      generalize (dvs (V.take k)).foldl stepC c = ck at *
      have hi0 : (0 : Int) ≤ (k : Int) := by omega
      have hi1 : (k : Int) < (V.length : Int) := by omega
      have HSN := Lib.hid hsn
      have HFS : Hid (fnV (V.take (k + 1)) = (b && decide (se = 0))) := by show _ = _; rw [hfs, ← hfn.out]
      clear hc hvz hsn hfs hfn
      rcases hse with hse | hse
      all_goals
        cases b
        all_goals
          subst hse
          go_wp2_with fail
          refine (CS.out _).mono ?_
          rintro e w2 ⟨A2, c2, rfl, hS2, hh2, hb2⟩
          have HS2 := Lib.hid hS2
          have HH2 := Lib.hid hh2
          have HR2 := Lib.hid (HR.out.below hb2)
          have HB2 := Lib.hid (hbut.trans (ButB.of_below hb2))
          clear hb2 hS2 hh2
          go_wp2_with fail
          go_loopw [27] (fun i wi => ∃ j : Nat, j ≤ E.length ∧ i = .int .i64 (j : Int) ∧ Hid (Rdr wi R D ((E.take j).foldl readC ck)) ∧ ButB R w2 wi) (fun i _ => E.length - (intOf i).toNat)
          case atStart => exact ⟨0, Nat.zero_le _, rfl, HR2.out, ButB.refl _ _⟩
          case round =>
            obtain ⟨j, hj, rfl, HRi, hbi⟩ := hrel
            have HSi := Lib.hid (HS2.out.but HH2.out HR2.out hbi)
            by_cases hjl : j < E.length
            · obtain ⟨bd, rfl, hd⟩ := HSi.out.at_ (by omega)
              have hcell2 := hd j E[j] (List.getElem?_eq_getElem hjl)
              have hez := hEz _ (List.getElem_mem hjl)
              have hft := fold_take E j hjl ck
              have CR := Lib.hid (fun W (hW : Rdr W R D ((E.take j).foldl readC ck)) => read_any R D _ (mkS E[j]) W hW (by rw [mkS_size]; omega))
              rw [mkS_list, ← hft] at CR
              generalize mkS E[j] = me at *
              have hj0 : (0 : Int) ≤ (j : Int) := by omega
              have hj1 : (j : Int) < (E.length : Int) := by omega
              clear hd hft hez
              go_wp2_with fail
              refine (CR.out _ HRi.out).mono ?_
              rintro e w3 ⟨rfl, hr3, hb3⟩
              have HR3 := Lib.hid hr3
              have HB3 := Lib.hid (hbi.trans hb3)
              clear hr3 hb3
              go_wp2_with fail
              go_roundw
              case rel => exact ⟨j + 1, by omega, by go_num, HR3.out, HB3.out⟩
              case measure => simp [intOf]; omega
            · have HT : Hid (E.foldl readC ck = (E.take j).foldl readC ck) := by show _ = _; rw [List.take_of_length_le (by omega)]
              have hj1 : ¬ (j : Int) < (E.length : Int) := by omega
              go_wp2_with fail
              go_roundw
              case rel => exact ⟨k + 1, _, by omega, by go_num, rfl, by show _ = _; rw [HFS.out]; rfl, by show Rdr _ _ _ _; rw [HSN.out, HT.out]; exact HRi.out, HB2.out.trans hbi⟩
              case measure => simp [intOf]; omega
    · rw [List.take_of_length_le (show V.length ≤ k by omega)] at hfn HR
      have hi1 : ¬ (k : Int) < (V.length : Int) := by omega
      go_wp2_with fail
      go_ret
      exact ⟨by rw [← hfn.out]; rfl, HR.out, hbut⟩

end Go.Proofs.YtmpiahahhkimkaaDoor
end

/-
  Contracts of package control's Parse and Asked.
-/
section
namespace Go.Proofs.YtmpiahahhkimkaaDoor
open Go.RowKit

theorem ctP_fold (L : List Fd) : ctP L = if fnV (fdAll L ccS) = true then (dvs (fdAll L ccS)).foldl stepC ct0 else { (dvs (fdAll L ccS)).foldl stepC ct0 with ns := true, nc := true } := ctD_fold _ _
set_option maxHeartbeats 16000000 in
set_option maxRecDepth 100000 in
theorem ctlP_any (A : Option Addr) (n c : Nat) (L : List Fd) (w : World) (h : SlF w A n c L) (hn : n ≤ 1000) (hB : ∀ x ∈ L, x.2.size ≤ 10000) (hBd : ∀ x ∈ L, Bd x) :
    Calls Tryd.prog 11 #[.slice A n c] w fun e w' => e = .returned (.agg (ctC (ctP L))) ∧ Below w.heap.size w w' := by
  have HZ : Hid ((w.alloc (.cells #[.bool false, .bool false, .bool false, .bool false, .bool false, .bool false, .int .i64 0, .int .i64 0, .int .i64 0] 23)).heap[w.heap.size]? = some (.cells #[.bool false, .bool false, .bool false, .bool false, .bool false, .bool false, .int .i64 0, .int .i64 0, .int .i64 0] 23 (0, 0))) := heap_alloc_new w _
  have HB : Hid (Below w.heap.size w (w.alloc (.cells #[.bool false, .bool false, .bool false, .bool false, .bool false, .bool false, .int .i64 0, .int .i64 0, .int .i64 0] 23))) := (Below.refl _ _).alloc (Nat.le_refl _) _
  have hctP := ctP_fold L
  have hVz : ∀ x ∈ fdAll L ccS, x.length ≤ 10000 := fun x hx => by
    unfold fdAll at hx
    obtain ⟨y, hy, rfl⟩ := List.mem_map.1 hx
    rw [← Lib.size_eq]
    exact hB y (List.mem_filter.1 hy).1
  have hVn : (fdAll L ccS).length ≤ 1000 := by
    unfold fdAll
    rw [List.length_map]
    exact Nat.le_trans (List.length_filter_le _ _) (by rw [h.len]; exact hn)
  have CA := Lib.hid (fun W (hW : Below w.heap.size w W) => all_any A n c L ccS W (h.below hW) (by omega) hBd ccS_le)
  unfold ccS at CA
  have hcc : (⟨#[67, 97, 99, 104, 101, 45, 67, 111, 110, 116, 114, 111, 108]⟩ : ByteArray) = ccS := rfl
  generalize hV : fdAll L ccS = V at *
  rw [hcc, hV] at CA
  unfold ccS at CA
  clear hcc hV
  obtain ⟨Z, hZ⟩ : ∃ Z, Z = ctP L := ⟨_, rfl⟩
  rw [← hZ] at hctP ⊢
  have HCT := Lib.hid hctP
  have CV := Lib.hid (fun (A' : Option Addr) d R D W hS hh hR => visit_any A' V.length d V R D ct0 W hS hh hR hVn hVz)
  generalize (dvs V).foldl stepC ct0 = cf at *
  clear hctP hZ h hn hB hBd hVz
  have mixed : Tryd.prog.follows .mixedOrders = true := by kernel_rfl
  go_enter Tryd.func11, Tryd.ntmps11
  go_wp2_with fail
  refine (dirs_any _).mono ?_
  rintro e w1 ⟨D, hD0, hD1, rfl, hT, hb1⟩
  have HZ1 := Lib.hid (zero_still hb1 HZ.out)
  have HB1 := Lib.hid (below_then HB.out hb1)
  have HT1 := Lib.hid hT
  have HD1 := Lib.hid hD1
  clear hb1 hT hD0 hD1
  go_wp2_with fail
  have HBA := Lib.hid (HB1.out.alloc HB1.out.size (.cells (rdC D ct0) 49))
  refine (CA.out _ HBA.out).mono ?_
  rintro e w2 ⟨A1, c1, rfl, hS2, hh2, hb2⟩
  have hR0 : Rdr (w1.alloc (.cells (rdC D ct0) 49)) w1.heap.size D ct0 := ⟨heap_alloc_new w1 _, fun j x hx => Lib.cell?_alloc_some _ (HT1.out j x hx), Nat.ne_of_lt HD1.out⟩
  have HR2 := Lib.hid (hR0.below hb2)
  have HZ2 := Lib.hid (zero_still hb2 (zero_more HZ1.out))
  have HB2 := Lib.hid (below_then HBA.out hb2)
  have HS2 := Lib.hid hS2
  have HH2 := Lib.hid hh2
  clear hR0 hb2 hS2 hh2
  go_wp2_with fail
  refine (CV.out A1 c1 _ D _ HS2.out HH2.out HR2.out).mono ?_
  rintro e w3 ⟨rfl, hR3, hbt⟩
  have hP : w.heap.size < w1.heap.size := (Array.getElem?_eq_some_iff.1 HZ1.out).1
  have HZ3 := Lib.hid ((hbt.block _ (Array.getElem?_eq_some_iff.1 HZ2.out).1 (Nat.ne_of_lt hP)).trans HZ2.out)
  have HB3 := Lib.hid (HB2.out.trans (hbt.below HB2.out.size (Nat.le_of_lt hP)))
  have HP := Lib.hid hP
  generalize w1.heap.size = R at *
  obtain ⟨ns, nc, pv, pu, mc, oi, ma, sh, mf⟩ := cf
  have row : w3.heap[R]? = some (.cells #[.slice (some ⟨D, 0, none⟩) 10 10, .bool ns, .bool nc, .bool pv, .bool pu, .bool mc, .bool oi, .int .i64 ma, .int .i64 sh, .int .i64 mf] 49 (0, 0)) := hR3.row
  have ROW := Lib.hid row
  clear hbt hR3 hP row CV CA HR2 HS2 HH2 HZ2 HB2 HBA HZ1 HB1 HT1 HD1 HB HZ
  cases hf : fnV V with
  | true =>
    rw [hf] at HCT
    rw [if_pos rfl] at HCT
    obtain ⟨k1, f1⟩ := rd_at ROW.out 1 _ rfl
    obtain ⟨k2, f2⟩ := rd_at ROW.out 2 _ rfl
    obtain ⟨k3, f3⟩ := rd_at ROW.out 3 _ rfl
    obtain ⟨k4, f4⟩ := rd_at ROW.out 4 _ rfl
    obtain ⟨k5, f5⟩ := rd_at ROW.out 5 _ rfl
    obtain ⟨k6, f6⟩ := rd_at ROW.out 6 _ rfl
    obtain ⟨k7, f7⟩ := rd_at ROW.out 7 _ rfl
    obtain ⟨k8, f8⟩ := rd_at ROW.out 8 _ rfl
    obtain ⟨k9, f9⟩ := rd_at ROW.out 9 _ rfl
    clear hf
    go_wp2_with (refine wpList_store_row rfl _ _ _ rfl w.heap.size #[.bool ns, .bool nc, .bool pv, .bool pu, .bool mc, .bool oi, .int .i64 ma, .int .i64 sh, .int .i64 mf] rfl rfl 23 _ HZ3.out (by kernel_rfl) rfl (by simp [Value.oneCell']) ?_)
    try simp only [Exit.inBlock, Exit.then]
    refine bodyPost_ret (results_cell_row rfl _ _ w.heap.size 23 #[.bool ns, .bool nc, .bool pv, .bool pu, .bool mc, .bool oi, .int .i64 ma, .int .i64 sh, .int .i64 mf] (0, 0) _ rfl (setRow_heap _ _ _ _ _ _ HZ3.out) Tryd.underlying23 rfl (by kernel_rfl)) rfl ?_
    exact ⟨by rw [HCT.out]; rfl, below_setRow HB3.out (Nat.le_refl _) _⟩
  | false =>
    rw [hf] at HCT
    rw [if_neg (by simp)] at HCT
    obtain ⟨k1, f1⟩ := rd_at ROW.out 1 _ rfl
    obtain ⟨k2, f2⟩ := rd_at ROW.out 2 _ rfl
    obtain ⟨k3, f3⟩ := rd_at ROW.out 3 _ rfl
    obtain ⟨k4, f4⟩ := rd_at ROW.out 4 _ rfl
    obtain ⟨k5, f5⟩ := rd_at ROW.out 5 _ rfl
    obtain ⟨k6, f6⟩ := rd_at ROW.out 6 _ rfl
    obtain ⟨k7, f7⟩ := rd_at ROW.out 7 _ rfl
    obtain ⟨k8, f8⟩ := rd_at ROW.out 8 _ rfl
    obtain ⟨k9, f9⟩ := rd_at ROW.out 9 _ rfl
    have hne : R ≠ w.heap.size := Nat.ne_of_gt HP.out
    have HZ4 : Hid (((w3.setCell ⟨R, 1, none⟩ (.bool true)).setCell ⟨R, 2, none⟩ (.bool true)).heap[w.heap.size]? = some (.cells #[.bool false, .bool false, .bool false, .bool false, .bool false, .bool false, .int .i64 0, .int .i64 0, .int .i64 0] 23 (0, 0))) := by
      show _ = _
      rw [Below.heap_setCell _ _ _ _ (Ne.symm hne), Below.heap_setCell _ _ _ _ (Ne.symm hne)]
      exact HZ3.out
    have HB4 : Hid (Below w.heap.size w ((w3.setCell ⟨R, 1, none⟩ (.bool true)).setCell ⟨R, 2, none⟩ (.bool true))) := (HB3.out.setCell (p := ⟨R, 1, none⟩) (Nat.le_of_lt HP.out) _).setCell (p := ⟨R, 2, none⟩) (Nat.le_of_lt HP.out) _
    clear hf hne
    go_wp2_with (refine wpList_store_row rfl _ _ _ rfl w.heap.size #[.bool true, .bool true, .bool pv, .bool pu, .bool mc, .bool oi, .int .i64 ma, .int .i64 sh, .int .i64 mf] rfl rfl 23 _ HZ4.out (by kernel_rfl) rfl (by simp [Value.oneCell']) ?_)
    try simp only [Exit.inBlock, Exit.then]
    refine bodyPost_ret (results_cell_row rfl _ _ w.heap.size 23 #[.bool true, .bool true, .bool pv, .bool pu, .bool mc, .bool oi, .int .i64 ma, .int .i64 sh, .int .i64 mf] (0, 0) _ rfl (setRow_heap _ _ _ _ _ _ HZ4.out) Tryd.underlying23 rfl (by kernel_rfl)) rfl ?_
    exact ⟨by rw [HCT.out]; rfl, below_setRow HB4.out (Nat.le_refl _) _⟩

set_option maxHeartbeats 16000000 in
set_option maxRecDepth 100000 in
theorem ctlA_any (A : Option Addr) (n c : Nat) (L : List Fd) (w : World) (h : SlF w A n c L) (hn : n ≤ 1000) (hB : ∀ x ∈ L, x.2.size ≤ 10000) (hBd : ∀ x ∈ L, Bd x) :
    Calls Tryd.prog 13 #[.slice A n c] w fun e w' => e = .returned (.agg (ctC (ctA L))) ∧ Below w.heap.size w w' := by
  have HZ : Hid ((w.alloc (.cells #[.bool false, .bool false, .bool false, .bool false, .bool false, .bool false, .int .i64 0, .int .i64 0, .int .i64 0] 23)).heap[w.heap.size]? = some (.cells #[.bool false, .bool false, .bool false, .bool false, .bool false, .bool false, .int .i64 0, .int .i64 0, .int .i64 0] 23 (0, 0))) := heap_alloc_new w _
  have HB : Hid (Below w.heap.size w (w.alloc (.cells #[.bool false, .bool false, .bool false, .bool false, .bool false, .bool false, .int .i64 0, .int .i64 0, .int .i64 0] 23))) := (Below.refl _ _).alloc (Nat.le_refl _) _
  have hVz : ∀ x ∈ fdAll L ccS, x.length ≤ 10000 := fun x hx => by
    unfold fdAll at hx
    obtain ⟨y, hy, rfl⟩ := List.mem_map.1 hx
    rw [← Lib.size_eq]
    exact hB y (List.mem_filter.1 hy).1
  have hVn : (fdAll L ccS).length ≤ 1000 := by
    unfold fdAll
    rw [List.length_map]
    exact Nat.le_trans (List.length_filter_le _ _) (by rw [h.len]; exact hn)
  have hJ : (Lib.join (fdAll L ccS) [44, 32]).length ≤ 1000000000000 := Nat.le_trans (join_le _ 1000 10000 hVn hVz) (by decide)
  have hA : ctA L = if fdGot L ccS = false ∧ fdHas L prS ncS = true then { ctP L with nc := true } else ctP L := by
    unfold ctA fdGot
    cases fdAll L ccS <;> simp
  have C1 := Lib.hid (fun W (hW : Below w.heap.size w W) => ctlP_any A n c L W (h.below hW) hn hB hBd)
  have C2 := Lib.hid (fun W (hW : Below w.heap.size w W) => getF_any A n c L ccS W (h.below hW) (by omega) hBd ccS_le hJ)
  have C3 := Lib.hid (fun W (hW : Below w.heap.size w W) => hasF_any A n c L prS ncS W (h.below hW) (by omega) hBd (by decide) (by decide))
  generalize fdGot L ccS = got at *
  generalize fdGet L ccS = gtt at *
  generalize fdHas L prS ncS = has at *
  generalize ctP L = P at *
  unfold ccS at C2
  unfold prS ncS at C3
  obtain ⟨Z, hZ⟩ : ∃ Z, Z = ctA L := ⟨_, rfl⟩
  rw [← hZ] at hA ⊢
  have HA := Lib.hid hA
  clear h hn hB hBd hVz hVn hJ hA hZ
  obtain ⟨ns, nc, pv, pu, mc, oi, ma, sh, mf⟩ := P
  unfold ctC at C1
  simp only at C1
  go_enter Tryd.func13, Tryd.ntmps13
  go_wp2_with fail
  refine (C1.out _ HB.out).mono ?_
  rintro e w1 ⟨rfl, hb1⟩
  have HZ1 := Lib.hid (zero_still hb1 HZ.out)
  have HB1 := Lib.hid (below_then HB.out hb1)
  clear hb1 C1
  go_wp2_with fail
  have HBA := Lib.hid (HB1.out.alloc HB1.out.size (.cells #[.bool ns, .bool nc, .bool pv, .bool pu, .bool mc, .bool oi, .int .i64 ma, .int .i64 sh, .int .i64 mf] 23))
  refine (C2.out _ HBA.out).mono ?_
  rintro e w2 ⟨rfl, hb2⟩
  have HC2 : Hid (w2.heap[w1.heap.size]? = some (.cells #[.bool ns, .bool nc, .bool pv, .bool pu, .bool mc, .bool oi, .int .i64 ma, .int .i64 sh, .int .i64 mf] 23 (0, 0))) := zero_still hb2 (heap_alloc_new w1 _)
  have HZ2 := Lib.hid (zero_still hb2 (zero_more HZ1.out))
  have HB2 := Lib.hid (below_then HBA.out hb2)
  have HP := Lib.hid (show w.heap.size < w1.heap.size from (Array.getElem?_eq_some_iff.1 HZ1.out).1)
  clear hb2 C2 HBA HB1 HZ1 HZ HB
  generalize w1.heap.size = R at *
  cases got with
  | true =>
    have HAF : Hid (Z = ⟨ns, nc, pv, pu, mc, oi, ma, sh, mf⟩) := by
      have := HA.out
      rwa [if_neg (by simp)] at this
    obtain ⟨k0, f0⟩ := rd_at HC2.out 0 _ rfl
    obtain ⟨k1, f1⟩ := rd_at HC2.out 1 _ rfl
    obtain ⟨k2, f2⟩ := rd_at HC2.out 2 _ rfl
    obtain ⟨k3, f3⟩ := rd_at HC2.out 3 _ rfl
    obtain ⟨k4, f4⟩ := rd_at HC2.out 4 _ rfl
    obtain ⟨k5, f5⟩ := rd_at HC2.out 5 _ rfl
    obtain ⟨k6, f6⟩ := rd_at HC2.out 6 _ rfl
    obtain ⟨k7, f7⟩ := rd_at HC2.out 7 _ rfl
    obtain ⟨k8, f8⟩ := rd_at HC2.out 8 _ rfl
    clear HA C3
    go_wp2_with (refine wpList_store_row rfl _ _ _ rfl w.heap.size #[.bool ns, .bool nc, .bool pv, .bool pu, .bool mc, .bool oi, .int .i64 ma, .int .i64 sh, .int .i64 mf] rfl rfl 23 _ HZ2.out (by kernel_rfl) rfl (by simp [Value.oneCell']) ?_)
    try simp only [Exit.inBlock, Exit.then]
    refine bodyPost_ret (results_cell_row rfl _ _ w.heap.size 23 #[.bool ns, .bool nc, .bool pv, .bool pu, .bool mc, .bool oi, .int .i64 ma, .int .i64 sh, .int .i64 mf] (0, 0) _ rfl (setRow_heap _ _ _ _ _ _ HZ2.out) Tryd.underlying23 rfl (by kernel_rfl)) rfl ?_
    exact ⟨by rw [HAF.out]; rfl, below_setRow HB2.out (Nat.le_refl _) _⟩
  | false =>
    go_wp2_with fail
    refine (C3.out _ HB2.out).mono ?_
    rintro e w3 ⟨rfl, hb3⟩
    have HC3 := Lib.hid (zero_still hb3 HC2.out)
    have HZ3 := Lib.hid (zero_still hb3 HZ2.out)
    have HB3 := Lib.hid (below_then HB2.out hb3)
    clear hb3 C3 HC2 HZ2 HB2
    cases has with
    | false =>
      have HAF : Hid (Z = ⟨ns, nc, pv, pu, mc, oi, ma, sh, mf⟩) := by
        have := HA.out
        rwa [if_neg (by simp)] at this
      obtain ⟨k0, f0⟩ := rd_at HC3.out 0 _ rfl
      obtain ⟨k1, f1⟩ := rd_at HC3.out 1 _ rfl
      obtain ⟨k2, f2⟩ := rd_at HC3.out 2 _ rfl
      obtain ⟨k3, f3⟩ := rd_at HC3.out 3 _ rfl
      obtain ⟨k4, f4⟩ := rd_at HC3.out 4 _ rfl
      obtain ⟨k5, f5⟩ := rd_at HC3.out 5 _ rfl
      obtain ⟨k6, f6⟩ := rd_at HC3.out 6 _ rfl
      obtain ⟨k7, f7⟩ := rd_at HC3.out 7 _ rfl
      obtain ⟨k8, f8⟩ := rd_at HC3.out 8 _ rfl
      clear HA
      go_wp2_with (refine wpList_store_row rfl _ _ _ rfl w.heap.size #[.bool ns, .bool nc, .bool pv, .bool pu, .bool mc, .bool oi, .int .i64 ma, .int .i64 sh, .int .i64 mf] rfl rfl 23 _ HZ3.out (by kernel_rfl) rfl (by simp [Value.oneCell']) ?_)
      try simp only [Exit.inBlock, Exit.then]
      refine bodyPost_ret (results_cell_row rfl _ _ w.heap.size 23 #[.bool ns, .bool nc, .bool pv, .bool pu, .bool mc, .bool oi, .int .i64 ma, .int .i64 sh, .int .i64 mf] (0, 0) _ rfl (setRow_heap _ _ _ _ _ _ HZ3.out) Tryd.underlying23 rfl (by kernel_rfl)) rfl ?_
      exact ⟨by rw [HAF.out]; rfl, below_setRow HB3.out (Nat.le_refl _) _⟩
    | true =>
      have HAF : Hid (Z = ⟨ns, true, pv, pu, mc, oi, ma, sh, mf⟩) := by
        have := HA.out
        rwa [if_pos (by simp)] at this
      obtain ⟨k0, f0⟩ := rd_at HC3.out 0 _ rfl
      obtain ⟨k1, f1⟩ := rd_at HC3.out 1 _ rfl
      obtain ⟨k2, f2⟩ := rd_at HC3.out 2 _ rfl
      obtain ⟨k3, f3⟩ := rd_at HC3.out 3 _ rfl
      obtain ⟨k4, f4⟩ := rd_at HC3.out 4 _ rfl
      obtain ⟨k5, f5⟩ := rd_at HC3.out 5 _ rfl
      obtain ⟨k6, f6⟩ := rd_at HC3.out 6 _ rfl
      obtain ⟨k7, f7⟩ := rd_at HC3.out 7 _ rfl
      obtain ⟨k8, f8⟩ := rd_at HC3.out 8 _ rfl
      have hne : R ≠ w.heap.size := Nat.ne_of_gt HP.out
      have HZ4 : Hid ((w3.setCell ⟨R, 1, none⟩ (.bool true)).heap[w.heap.size]? = some (.cells #[.bool false, .bool false, .bool false, .bool false, .bool false, .bool false, .int .i64 0, .int .i64 0, .int .i64 0] 23 (0, 0))) := by
        show _ = _
        rw [Below.heap_setCell _ _ _ _ (Ne.symm hne)]
        exact HZ3.out
      have HB4 : Hid (Below w.heap.size w (w3.setCell ⟨R, 1, none⟩ (.bool true))) := HB3.out.setCell (p := ⟨R, 1, none⟩) (Nat.le_of_lt HP.out) _
      clear hne HA
      go_wp2_with (refine wpList_store_row rfl _ _ _ rfl w.heap.size #[.bool ns, .bool true, .bool pv, .bool pu, .bool mc, .bool oi, .int .i64 ma, .int .i64 sh, .int .i64 mf] rfl rfl 23 _ HZ4.out (by kernel_rfl) rfl (by simp [Value.oneCell']) ?_)
      try simp only [Exit.inBlock, Exit.then]
      refine bodyPost_ret (results_cell_row rfl _ _ w.heap.size 23 #[.bool ns, .bool true, .bool pv, .bool pu, .bool mc, .bool oi, .int .i64 ma, .int .i64 sh, .int .i64 mf] (0, 0) _ rfl (setRow_heap _ _ _ _ _ _ HZ4.out) Tryd.underlying23 rfl (by kernel_rfl)) rfl ?_
      exact ⟨by rw [HAF.out]; rfl, below_setRow HB4.out (Nat.le_refl _) _⟩

end Go.Proofs.YtmpiahahhkimkaaDoor
end
