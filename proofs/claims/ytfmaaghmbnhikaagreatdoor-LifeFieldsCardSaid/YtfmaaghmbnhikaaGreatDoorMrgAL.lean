/-
  Texts that the laws of this seat lean on, one behind the other.
-/
import Derived.Test.YtfmaaghmbnhikaaGreatDoorMrgAA
import Derived.Test.YtfmaaghmbnhikaaGreatDoorMrgI
import Derived.Test.YtfmaaghmbnhikaaGreatDoorMrgH
import Derived.Deep.RegionHeld3
import Derived.Deep.AppendLies
import Derived.Test.YtfmaaghmbnhikaaGreatDoorMrgAJ
import Derived.Test.YtfmaaghmbnhikaaGreatDoorMrgG
import Derived.Test.YtfmaaghmbnhikaaGreatDoorMrgQ
import Derived.Test.YtfmaaghmbnhikaaGreatDoorMrgX
/-
  Contracts of the effects in package control's table of directives: each writes one cell behind the pointer.
-/
section
namespace Go.Proofs.YtfmaaghmbnhikaaGreatDoor
open Go.RowKit

theorem rd_set {w : World} {R t k : Nat} {cs : Array Value} (h : w.heap[R]? = some (.cells cs t (0, 0))) (u : Value) : (w.setCell ⟨R, k, none⟩ u).heap[R]? = some (.cells (cs.setIfInBounds k u) t (0, 0)) := by
  simp [World.setCell, Array.getElem?_modify, h]
theorem ctRd_at {w : World} {R t : Nat} {cs : Array Value} (h : w.heap[R]? = some (.cells cs t (0, 0))) (k : Nat) (u : Value) (hk : cs[k]? = some u) : w.cell? ⟨R, k, none⟩ = some u ∧ w.frozen? ⟨R, k, none⟩ = false :=
  ⟨(cell_of_row _ _ _ _ _ _ h).trans hk, by simp [World.frozen?, h]⟩

set_option maxHeartbeats 4000000 in
set_option maxRecDepth 100000 in
theorem eff1_any (R : Nat) (A : Option Addr) (n cp : Nat) (ns nc pv pu mc oi : Bool) (ma sh mf : Int) (v : ByteArray) (w : World)
    (h : w.heap[R]? = some (.cells #[.slice A n cp, .bool ns, .bool nc, .bool pv, .bool pu, .bool mc, .bool oi, .int .i64 ma, .int .i64 sh, .int .i64 mf] 68 (0, 0))) :
    Calls Tryz.prog 77 #[.pointer (some ⟨R, 1, none⟩), .string v] w fun e w' => e = .returned (.tuple #[]) ∧ ButB R w w' ∧ w'.heap[R]? = some (.cells #[.slice A n cp, .bool true, .bool nc, .bool pv, .bool pu, .bool mc, .bool oi, .int .i64 ma, .int .i64 sh, .int .i64 mf] 68 (0, 0)) := by
  have HG := Lib.hid h
  obtain ⟨hc, hf⟩ := ctRd_at h 1 _ rfl
  clear h
  go_enter Tryz.func77, Tryz.ntmps77
  go_wp2_with fail
  go_end0
  exact ⟨rfl, (ButB.refl _ _).setCell _ _, rd_set HG.out _⟩

set_option maxHeartbeats 4000000 in
set_option maxRecDepth 100000 in
theorem eff2_any (R : Nat) (A : Option Addr) (n cp : Nat) (ns nc pv pu mc oi : Bool) (ma sh mf : Int) (v : ByteArray) (w : World)
    (h : w.heap[R]? = some (.cells #[.slice A n cp, .bool ns, .bool nc, .bool pv, .bool pu, .bool mc, .bool oi, .int .i64 ma, .int .i64 sh, .int .i64 mf] 68 (0, 0))) :
    Calls Tryz.prog 78 #[.pointer (some ⟨R, 1, none⟩), .string v] w fun e w' => e = .returned (.tuple #[]) ∧ ButB R w w' ∧ w'.heap[R]? = some (.cells #[.slice A n cp, .bool ns, .bool true, .bool pv, .bool pu, .bool mc, .bool oi, .int .i64 ma, .int .i64 sh, .int .i64 mf] 68 (0, 0)) := by
  have HG := Lib.hid h
  obtain ⟨hc, hf⟩ := ctRd_at h 2 _ rfl
  clear h
  go_enter Tryz.func78, Tryz.ntmps78
  go_wp2_with fail
  go_end0
  exact ⟨rfl, (ButB.refl _ _).setCell _ _, rd_set HG.out _⟩

set_option maxHeartbeats 4000000 in
set_option maxRecDepth 100000 in
theorem eff3_any (R : Nat) (A : Option Addr) (n cp : Nat) (ns nc pv pu mc oi : Bool) (ma sh mf : Int) (v : ByteArray) (w : World)
    (h : w.heap[R]? = some (.cells #[.slice A n cp, .bool ns, .bool nc, .bool pv, .bool pu, .bool mc, .bool oi, .int .i64 ma, .int .i64 sh, .int .i64 mf] 68 (0, 0))) :
    Calls Tryz.prog 79 #[.pointer (some ⟨R, 1, none⟩), .string v] w fun e w' => e = .returned (.tuple #[]) ∧ ButB R w w' ∧ w'.heap[R]? = some (.cells #[.slice A n cp, .bool ns, .bool nc, .bool true, .bool pu, .bool mc, .bool oi, .int .i64 ma, .int .i64 sh, .int .i64 mf] 68 (0, 0)) := by
  have HG := Lib.hid h
  obtain ⟨hc, hf⟩ := ctRd_at h 3 _ rfl
  clear h
  go_enter Tryz.func79, Tryz.ntmps79
  go_wp2_with fail
  go_end0
  exact ⟨rfl, (ButB.refl _ _).setCell _ _, rd_set HG.out _⟩

set_option maxHeartbeats 4000000 in
set_option maxRecDepth 100000 in
theorem eff4_any (R : Nat) (A : Option Addr) (n cp : Nat) (ns nc pv pu mc oi : Bool) (ma sh mf : Int) (v : ByteArray) (w : World)
    (h : w.heap[R]? = some (.cells #[.slice A n cp, .bool ns, .bool nc, .bool pv, .bool pu, .bool mc, .bool oi, .int .i64 ma, .int .i64 sh, .int .i64 mf] 68 (0, 0))) :
    Calls Tryz.prog 80 #[.pointer (some ⟨R, 1, none⟩), .string v] w fun e w' => e = .returned (.tuple #[]) ∧ ButB R w w' ∧ w'.heap[R]? = some (.cells #[.slice A n cp, .bool ns, .bool nc, .bool pv, .bool true, .bool mc, .bool oi, .int .i64 ma, .int .i64 sh, .int .i64 mf] 68 (0, 0)) := by
  have HG := Lib.hid h
  obtain ⟨hc, hf⟩ := ctRd_at h 4 _ rfl
  clear h
  go_enter Tryz.func80, Tryz.ntmps80
  go_wp2_with fail
  go_end0
  exact ⟨rfl, (ButB.refl _ _).setCell _ _, rd_set HG.out _⟩

set_option maxHeartbeats 4000000 in
set_option maxRecDepth 100000 in
theorem eff5_any (R : Nat) (A : Option Addr) (n cp : Nat) (ns nc pv pu mc oi : Bool) (ma sh mf : Int) (v : ByteArray) (w : World)
    (h : w.heap[R]? = some (.cells #[.slice A n cp, .bool ns, .bool nc, .bool pv, .bool pu, .bool mc, .bool oi, .int .i64 ma, .int .i64 sh, .int .i64 mf] 68 (0, 0))) :
    Calls Tryz.prog 81 #[.pointer (some ⟨R, 1, none⟩), .string v] w fun e w' => e = .returned (.tuple #[]) ∧ ButB R w w' ∧ w'.heap[R]? = some (.cells #[.slice A n cp, .bool ns, .bool nc, .bool pv, .bool pu, .bool true, .bool oi, .int .i64 ma, .int .i64 sh, .int .i64 mf] 68 (0, 0)) := by
  have HG := Lib.hid h
  obtain ⟨hc, hf⟩ := ctRd_at h 5 _ rfl
  clear h
  go_enter Tryz.func81, Tryz.ntmps81
  go_wp2_with fail
  go_end0
  exact ⟨rfl, (ButB.refl _ _).setCell _ _, rd_set HG.out _⟩

set_option maxHeartbeats 4000000 in
set_option maxRecDepth 100000 in
theorem eff6_any (R : Nat) (A : Option Addr) (n cp : Nat) (ns nc pv pu mc oi : Bool) (ma sh mf : Int) (v : ByteArray) (w : World)
    (h : w.heap[R]? = some (.cells #[.slice A n cp, .bool ns, .bool nc, .bool pv, .bool pu, .bool mc, .bool oi, .int .i64 ma, .int .i64 sh, .int .i64 mf] 68 (0, 0))) :
    Calls Tryz.prog 82 #[.pointer (some ⟨R, 1, none⟩), .string v] w fun e w' => e = .returned (.tuple #[]) ∧ ButB R w w' ∧ w'.heap[R]? = some (.cells #[.slice A n cp, .bool ns, .bool nc, .bool pv, .bool pu, .bool true, .bool oi, .int .i64 ma, .int .i64 sh, .int .i64 mf] 68 (0, 0)) := by
  have HG := Lib.hid h
  obtain ⟨hc, hf⟩ := ctRd_at h 5 _ rfl
  clear h
  go_enter Tryz.func82, Tryz.ntmps82
  go_wp2_with fail
  go_end0
  exact ⟨rfl, (ButB.refl _ _).setCell _ _, rd_set HG.out _⟩

set_option maxHeartbeats 4000000 in
set_option maxRecDepth 100000 in
theorem eff7_any (R : Nat) (A : Option Addr) (n cp : Nat) (ns nc pv pu mc oi : Bool) (ma sh mf : Int) (v : ByteArray) (w : World)
    (h : w.heap[R]? = some (.cells #[.slice A n cp, .bool ns, .bool nc, .bool pv, .bool pu, .bool mc, .bool oi, .int .i64 ma, .int .i64 sh, .int .i64 mf] 68 (0, 0))) :
    Calls Tryz.prog 83 #[.pointer (some ⟨R, 1, none⟩), .string v] w fun e w' => e = .returned (.tuple #[]) ∧ ButB R w w' ∧ w'.heap[R]? = some (.cells #[.slice A n cp, .bool ns, .bool nc, .bool pv, .bool pu, .bool mc, .bool true, .int .i64 ma, .int .i64 sh, .int .i64 mf] 68 (0, 0)) := by
  have HG := Lib.hid h
  obtain ⟨hc, hf⟩ := ctRd_at h 6 _ rfl
  clear h
  go_enter Tryz.func83, Tryz.ntmps83
  go_wp2_with fail
  go_end0
  exact ⟨rfl, (ButB.refl _ _).setCell _ _, rd_set HG.out _⟩

set_option maxHeartbeats 4000000 in
set_option maxRecDepth 100000 in
theorem eff8_any (R : Nat) (A : Option Addr) (n cp : Nat) (ns nc pv pu mc oi : Bool) (ma sh mf : Int) (v : ByteArray) (w : World)
    (h : w.heap[R]? = some (.cells #[.slice A n cp, .bool ns, .bool nc, .bool pv, .bool pu, .bool mc, .bool oi, .int .i64 ma, .int .i64 sh, .int .i64 mf] 68 (0, 0))) :
    Calls Tryz.prog 84 #[.pointer (some ⟨R, 1, none⟩), .string v] w fun e w' => e = .returned (.tuple #[]) ∧ ButB R w w' ∧ w'.heap[R]? = some (.cells #[.slice A n cp, .bool ns, .bool nc, .bool pv, .bool pu, .bool mc, .bool oi, .int .i64 (leaN ma (secN v.data.toList)), .int .i64 sh, .int .i64 mf] 68 (0, 0)) := by
  have HG := Lib.hid h
  obtain ⟨hc, hf⟩ := ctRd_at h 7 _ rfl
  clear h
  have CS := Lib.hid (fun W => secs_any v 0 W)
  have HS := Lib.hid (sec_or v.data.toList)
  rw [HS.out] at CS
  clear HS
  generalize secN v.data.toList = q at *
  have CL := Lib.hid (fun W => lst_any ma q W)
  generalize leaN ma q = r at *
  go_enter Tryz.func84, Tryz.ntmps84
  go_region_law (first
    | (go_simp; go_at_call 86; refine (CS.out _).mono ?_; rintro e w1 ⟨rfl, hb1⟩; have HB := Lib.hid hb1; have hc1 := cell_kept hb1 hc; have hf1 := (hb1.frozen (World.block_lt_of_cell? w _ hc)).trans hf; have HG1 := Lib.hid (zero_still hb1 HG.out); clear hb1)
    | (go_simp; go_at_call 85; refine (CL.out _).mono ?_; rintro e w2 ⟨rfl, rfl⟩))
  all_goals
    go_wp2_with fail
    go_end0
    exact ⟨rfl, (ButB.of_below (show Below w.heap.size w w1 from (Below.refl w.heap.size w).drew.trans HB.out)).setCell _ _, rd_set HG1.out _⟩

set_option maxHeartbeats 4000000 in
set_option maxRecDepth 100000 in
theorem eff9_any (R : Nat) (A : Option Addr) (n cp : Nat) (ns nc pv pu mc oi : Bool) (ma sh mf : Int) (v : ByteArray) (w : World)
    (h : w.heap[R]? = some (.cells #[.slice A n cp, .bool ns, .bool nc, .bool pv, .bool pu, .bool mc, .bool oi, .int .i64 ma, .int .i64 sh, .int .i64 mf] 68 (0, 0))) :
    Calls Tryz.prog 87 #[.pointer (some ⟨R, 1, none⟩), .string v] w fun e w' => e = .returned (.tuple #[]) ∧ ButB R w w' ∧ w'.heap[R]? = some (.cells #[.slice A n cp, .bool ns, .bool nc, .bool pv, .bool pu, .bool mc, .bool oi, .int .i64 ma, .int .i64 (leaN sh (secN v.data.toList)), .int .i64 mf] 68 (0, 0)) := by
  have HG := Lib.hid h
  obtain ⟨hc, hf⟩ := ctRd_at h 8 _ rfl
  clear h
  have CS := Lib.hid (fun W => secs_any v 0 W)
  have HS := Lib.hid (sec_or v.data.toList)
  rw [HS.out] at CS
  clear HS
  generalize secN v.data.toList = q at *
  have CL := Lib.hid (fun W => lst_any sh q W)
  generalize leaN sh q = r at *
  go_enter Tryz.func87, Tryz.ntmps87
  go_region_law (first
    | (go_simp; go_at_call 86; refine (CS.out _).mono ?_; rintro e w1 ⟨rfl, hb1⟩; have HB := Lib.hid hb1; have hc1 := cell_kept hb1 hc; have hf1 := (hb1.frozen (World.block_lt_of_cell? w _ hc)).trans hf; have HG1 := Lib.hid (zero_still hb1 HG.out); clear hb1)
    | (go_simp; go_at_call 85; refine (CL.out _).mono ?_; rintro e w2 ⟨rfl, rfl⟩))
  all_goals
    go_wp2_with fail
    go_end0
    exact ⟨rfl, (ButB.of_below (show Below w.heap.size w w1 from (Below.refl w.heap.size w).drew.trans HB.out)).setCell _ _, rd_set HG1.out _⟩

set_option maxHeartbeats 4000000 in
set_option maxRecDepth 100000 in
theorem eff10_any (R : Nat) (A : Option Addr) (n cp : Nat) (ns nc pv pu mc oi : Bool) (ma sh mf : Int) (v : ByteArray) (w : World)
    (h : w.heap[R]? = some (.cells #[.slice A n cp, .bool ns, .bool nc, .bool pv, .bool pu, .bool mc, .bool oi, .int .i64 ma, .int .i64 sh, .int .i64 mf] 68 (0, 0))) :
    Calls Tryz.prog 88 #[.pointer (some ⟨R, 1, none⟩), .string v] w fun e w' => e = .returned (.tuple #[]) ∧ ButB R w w' ∧ w'.heap[R]? = some (.cells #[.slice A n cp, .bool ns, .bool nc, .bool pv, .bool pu, .bool mc, .bool oi, .int .i64 ma, .int .i64 sh, .int .i64 (max mf (if secB v.data.toList = true then secN v.data.toList else 2147483648))] 68 (0, 0)) := by
  have HG := Lib.hid h
  obtain ⟨hc, hf⟩ := ctRd_at h 9 _ rfl
  clear h
  have CS := Lib.hid (fun W => secs_any v 2147483648 W)
  generalize (if secB v.data.toList = true then secN v.data.toList else 2147483648) = q at *
  go_enter Tryz.func88, Tryz.ntmps88
  go_region_law ((go_simp; go_at_call 86; refine (CS.out _).mono ?_; rintro e w1 ⟨rfl, hb1⟩; have HB := Lib.hid hb1; have hc1 := cell_kept hb1 hc; have hf1 := (hb1.frozen (World.block_lt_of_cell? w _ hc)).trans hf; have HG1 := Lib.hid (zero_still hb1 HG.out); clear hb1))
  all_goals
    go_wp2_with fail
    go_end0
    exact ⟨rfl, (ButB.of_below (show Below w.heap.size w w1 from (Below.refl w.heap.size w).drew.trans HB.out)).setCell _ _, rd_set HG1.out _⟩

end Go.Proofs.YtfmaaghmbnhikaaGreatDoor
end

/-
  Contract of the reference's Print (layer 13).
-/
section
namespace Go.Proofs.YtfmaaghmbnhikaaGreatDoor
open Go.RowKit

/-- 'append(out, xs...)' on strings at a step of a region that draws its order: out the call's own, xs not nil. -/
theorem step_append_sls {P : Program} {ops : Array Oper} {o : Oper} {a : Act} {w : World} {K : Act → World → Prop} {Q : Exit → Act → World → Prop} {E : Prop} (hgd : o.guard = none) (s x : Operand) (t : TypeId)
    (ho : o.op = .call { callee := .builtin .append, args := #[s, x], argTypes := #[t, t] }) (base e : Nat) (ht : P.underlying t = some (.slice e))
    (hI : (P.info? e).map (fun i => (i.zero, i.size, i.bytes)) = some (some (.string ByteArray.empty), 1, 16)) (v : Value) (hs : a.eval s = v) (X : List (List UInt8)) (hown : OwnS w base e v X)
    (ad : Addr) (m c : Nat) (hx : a.eval x = .slice (some ad) m c) (Y : List (List UInt8)) (hY : SlS w (some ad) m c Y) (hm : 0 < m) (hlen : X.length + Y.length ≤ 1000000000) (hbase : base ≤ w.heap.size) (w0 : World) (hb : Below base w0 w)
    (h : ∀ v' w', Hid (OwnS w' base e v' (X ++ Y)) → Below base w0 w' → w.heap.size ≤ w'.heap.size → Hid (Grw w w' v v') → K (a.put o.dst v') w') :
    if Region.wanted o (yielded ops a.tmps) = true then Oper.wp P o a w K Q else E := by
  obtain ⟨i0, hi, hz0, hz1, hz2⟩ := info_parts hI
  have hl := hY.len
  refine step_append_lies w hgd s x t ho base e i0 (.string ByteArray.empty) 1 16 ht hi hz0 hz1 hz2 rfl (by decide) v _ _ hs hown ad m c (Y.map stV) hx (by rw [List.length_map, hl, Nat.mul_one]) hY.news (stV_ones _) hm (by unfold maxLen; omega) (by omega) hbase _ rfl ?_
  intro g cap w' hown' hgrow hat _
  refine h _ w' ?_ (hb.grown hgrow hbase (fun k hk => (hown.lt k hk).1)) hgrow.size ⟨fun a x hc hne => hgrow.cell hc hne, by
    rcases hat with e | e
    · exact .inl e.symm
    · exact .inr (congrArg some e)⟩
  show World.ownsRow _ _ _ _ _ _ _
  rw [List.length_append, hl, List.map_append]
  exact hown'

/-- The cells of a block begin with these values. -/
def SlV (w : World) (g : Nat) (L : List Value) : Prop := ∀ (j : Nat) (x : Value), L[j]? = some x → w.cell? ⟨g, j, none⟩ = some x
theorem SlV.new (w : World) (t : TypeId) {L : List Value} {cs : Array Value} (h : ∀ (j : Nat) (x : Value), L[j]? = some x → cs[j]? = some x) : SlV (w.alloc (.cells cs t)) w.heap.size L := fun j x hx => by
  rw [cell_of_row _ _ _ _ _ _ (heap_alloc_new w _)]
  exact h j x hx
theorem SlV.alloc {w : World} {g : Nat} {L : List Value} (h : SlV w g L) (o : Obj) : SlV (w.alloc o) g L := fun j x hx => Lib.cell?_alloc_some o (h j x hx)
theorem SlV.below {w w' : World} {g : Nat} {L : List Value} (h : SlV w g L) (hb : Below w.heap.size w w') : SlV w' g L := fun j x hx => cell_kept hb (h j x hx)
theorem SlV.grw {w w' : World} {g : Nat} {L : List Value} {v v' : Value} (h : SlV w g L) (hne : v.ownBlock ≠ some g) (hg : Grw w w' v v') : SlV w' g L := fun j x hx => hg.kept _ _ (h j x hx) (fun e => hne e.symm)
theorem ne_grw {w w' : World} {g : Nat} {v v' : Value} (hne : v.ownBlock ≠ some g) (hg : Grw w w' v v') (hlt : g < w.heap.size) : v'.ownBlock ≠ some g := by
  rcases hg.at_ with e | e
  · rw [e]; exact hne
  · rw [e]; intro h; have := Option.some.inj h; omega

def ctF (c : Ctl) : List (Bool × List UInt8) := [(c.ns, nsS.data.toList), (c.nc, ncS.data.toList), (c.pv, pvS.data.toList), (c.pu, puS.data.toList), (c.mc, mrS.data.toList), (c.oi, oiS.data.toList)]
def ctM (c : Ctl) : List (Int × List UInt8) := [(c.ma, maE.data.toList), (c.sh, smE.data.toList), (c.mf, mfE.data.toList)]
def flS (p : Bool × List UInt8) : List (List UInt8) := if p.1 then [p.2] else []
def nmS (p : Int × List UInt8) : List (List UInt8) := if 0 ≤ p.1 then [p.2 ++ plainL p.1] else []
theorem ct_parts (c : Ctl) : ctL c = (ctF c).flatMap flS ++ (ctM c).flatMap nmS := by
  unfold ctL ctF ctM
  simp [flS, nmS]
theorem fm_take {α : Type} (f : α → List (List UInt8)) (L : List α) (k : Nat) (h : k < L.length) : (L.take (k + 1)).flatMap f = (L.take k).flatMap f ++ f L[k] := by
  rw [List.take_succ_eq_append_getElem h, List.flatMap_append]
  simp
theorem fl_len (L : List (Bool × List UInt8)) : (L.flatMap flS).length ≤ L.length := by
  induction L with
  | nil => exact Nat.le_refl _
  | cons p L ih =>
    rw [List.flatMap_cons, List.length_append, List.length_cons]
    have : (flS p).length ≤ 1 := by unfold flS; split <;> simp
    omega
theorem nm_len (L : List (Int × List UInt8)) : (L.flatMap nmS).length ≤ L.length := by
  induction L with
  | nil => exact Nat.le_refl _
  | cons p L ih =>
    rw [List.flatMap_cons, List.length_append, List.length_cons]
    have : (nmS p).length ≤ 1 := by unfold nmS; split <;> simp
    omega

end Go.Proofs.YtfmaaghmbnhikaaGreatDoor
end
