/-
  Texts that the laws of this seat lean on, one behind the other.
-/
import Derived.Test.YtjkfdjolhmgemaaGreatDoorMrgAS
import Derived.Test.YtjkfdjolhmgemaaGreatDoorMrgAC
import Derived.Test.YtjkfdjolhmgemaaGreatDoorMrgAE
import Derived.Test.YtjkfdjolhmgemaaGreatDoorMrgAB
import Derived.Deep.DeepCutAuto
import Derived.Test.YtjkfdjolhmgemaaGreatDoorMrgAQ
set_option linter.unusedSimpArgs false
set_option linter.unusedVariables false
/-
  Package conds: contracts of listed, unchanged, sameTag, sameModified, Satisfied, Selects.
-/
section
namespace Go.Proofs.YtjkfdjolhmgemaaGreatDoor
open Go.RowKit
set_option linter.unusedSimpArgs false

def lisB (s : ByteArray) (L : List Fd) : Bool := lsA s || (rtB L && mtB s (rtO L))
def uncB (Q L : List Fd) : Bool := whnB Q imsS && (whnB L lmS && decide (whnV L lmS ≤ whnV Q imsS))
def stgB (R N : List Fd) : Bool := rtB R && (rtB N && wekB (rtO R) (rtO N))
def smoB (R N : List Fd) : Bool := (fdGot R lmS == fdGot N lmS) && ((fdGet R lmS).toList == (fdGet N lmS).toList)
theorem join_ok {L : List Fd} (h : FwL L) (name : ByteArray) : (Lib.join (fdAll L name) [44, 32]).length ≤ 1000000000000 := by
  have := get_le h name
  unfold fdGet at this
  rw [mkS_size] at this
  omega
theorem con_le2 : etS.size ≤ maxLen ∧ lmS.size ≤ maxLen ∧ lmS.size ≤ 1000000 ∧ imsS.size ≤ 1000000 := by decide

set_option maxHeartbeats 8000000 in
set_option maxRecDepth 100000 in
theorem listed_any (s : ByteArray) (p : Rply) (B : Option Addr) (d : Nat) (w : World) (hs : s.size ≤ 100000000) (h' : SlF w B p.f.length d p.f) (hL : FwL p.f) :
    Calls Tryz.prog 30 #[.string s, .agg (rpC p B d)] w fun e w' => e = .returned (.bool (lisB s p.f)) ∧ Below w.heap.size w w' := by
  have C1 := Lib.hid (fun W => etL_any s W hs)
  have C2 := Lib.hid (fun W (hW : Below w.heap.size w W) => reuG_any p B d W (h'.below hW) hL)
  have C3 := Lib.hid (fun W => etM_any s (rtO p.f) W hs)
  obtain ⟨pc, pr, pv, g, pb⟩ := p
  unfold rpC IsTs lisB at *
  simp only at *
  generalize mtB s (rtO g) = mt at *
  generalize rtO g = tg at *
  generalize rtB g = tb at *
  generalize lsL s = ll at *
  generalize lsE s = le at *
  generalize lsA s = la at *
  obtain ⟨ta, ts⟩ := tg
  unfold tgV at *
  clear h' hL hs
  have HB : Hid (Below w.heap.size w (w.alloc (.cells #[.int .i64 pc, .string pr, .int .i64 pv, .slice B g.length d, .string pb] 26))) := alls_below [.cells #[.int .i64 pc, .string pr, .int .i64 pv, .slice B g.length d, .string pb] 26] w
  have Z0 : Hid ((w.alloc (.cells #[.int .i64 pc, .string pr, .int .i64 pv, .slice B g.length d, .string pb] 26)).heap[w.heap.size]? = some (.cells #[.int .i64 pc, .string pr, .int .i64 pv, .slice B g.length d, .string pb] 26 (0, 0))) := alls_at [.cells #[.int .i64 pc, .string pr, .int .i64 pv, .slice B g.length d, .string pb] 26] w 0 _ rfl
  obtain ⟨q0, q1, q2, q3, q4⟩ := cel5r Z0.out
  go_enter Tryz.func30, Tryz.ntmps30
  go_wp2_with fail
  refine (C1.out _).mono ?_
  rintro e v9 ⟨A2, c2, rfl, _, hb⟩
  clear q0 q1 q2 q3 q4
  replace Z0 := Lib.hid (zero_still hb Z0.out)
  replace HB := Lib.hid (below_then HB.out hb)
  clear hb
  obtain ⟨q0, q1, q2, q3, q4⟩ := cel5r Z0.out
  go_wp2_with fail
  refine (C2.out _ HB.out).mono ?_
  rintro e v9 ⟨rfl, hb⟩
  clear q0 q1 q2 q3 q4
  replace Z0 := Lib.hid (zero_still hb Z0.out)
  replace HB := Lib.hid (below_then HB.out hb)
  clear hb
  obtain ⟨q0, q1, q2, q3, q4⟩ := cel5r Z0.out
  obtain ⟨Uga, hUga⟩ : ∃ W, v9.alloc (.cells #[.bool ta, .string ts] 49) = W := ⟨_, rfl⟩
  obtain ⟨ga, hga⟩ : ∃ g, v9.heap.size = g := ⟨_, rfl⟩
  clear q0 q1 q2 q3 q4
  replace Z0 := Lib.hid (zero_more (o' := .cells #[.bool ta, .string ts] 49) Z0.out)
  rw [hUga] at Z0
  have Tga : Hid (Uga.heap[ga]? = some (.cells #[.bool ta, .string ts] 49 (0, 0))) := (by show _ = _; rw [← hUga, ← hga]; exact heap_alloc_new v9 _)
  replace HB : Hid (Below w.heap.size w Uga) := (by show Below _ _ _; rw [← hUga]; exact HB.out.alloc HB.out.size _)
  obtain ⟨q0, q1, q2, q3, q4⟩ := cel5r Z0.out
  obtain ⟨ga0', ga1'⟩ := zero_two Tga.out
  cases la with
  | true =>
    go_wp2_with fail
    go_ret
    exact ⟨rfl, HB.out⟩
  | false =>
    cases tb with
    | false =>
      go_wp2_with fail
      go_ret
      exact ⟨rfl, HB.out⟩
    | true =>
      go_wp2_with fail
      try rw [hUga]
      refine (C3.out _).mono ?_
      rintro e v8 ⟨rfl, hb⟩
      replace HB := Lib.hid (below_then HB.out hb)
      clear hb
      clear q0 q1 q2 q3 q4 ga0' ga1'
      go_wp2_with fail
      go_ret
      exact ⟨rfl, HB.out⟩

set_option maxHeartbeats 8000000 in
set_option maxRecDepth 100000 in
theorem unchanged_any (r : Rqst) (A : Option Addr) (c : Nat) (p : Rply) (B : Option Addr) (d : Nat) (w : World) (h : SlF w A r.f.length c r.f) (hQ : FwL r.f) (h' : SlF w B p.f.length d p.f) (hL : FwL p.f) (HT : ConTabs w) :
    Calls Tryz.prog 31 #[.agg (rqC r A c), .agg (rpC p B d)] w fun e w' => e = .returned (.bool (uncB r.f p.f)) ∧ Below w.heap.size w w' := by
  have C1 := Lib.hid (fun W (hW : Below w.heap.size w W) => lifW_dat A c r.f imsS W (h.below hW) hQ con_le2.2.2.2 (HT.kept hW).dat)
  have C2 := Lib.hid (fun W (hW : Below w.heap.size w W) => lifW_dat B d p.f lmS W (h'.below hW) hL con_le2.2.2.1 (HT.kept hW).dat)
  obtain ⟨m, t, v, f, b⟩ := r
  obtain ⟨pc, pr, pv, g, pb⟩ := p
  unfold rqC rpC uncB at *
  simp only at *
  generalize whnB f imsS = b5 at *
  generalize whnV f imsS = v5 at *
  generalize whnB g lmS = b6 at *
  generalize whnV g lmS = v6 at *
  unfold imsS at C1
  unfold lmS at C2
  clear h hQ h' hL HT
  have HB : Hid (Below w.heap.size w ((w.alloc (.cells #[.string m, .string t, .int .i64 v, .slice A f.length c, .string b] 24)).alloc (.cells #[.int .i64 pc, .string pr, .int .i64 pv, .slice B g.length d, .string pb] 26))) := alls_below [.cells #[.string m, .string t, .int .i64 v, .slice A f.length c, .string b] 24, .cells #[.int .i64 pc, .string pr, .int .i64 pv, .slice B g.length d, .string pb] 26] w
  have Z0 : Hid (((w.alloc (.cells #[.string m, .string t, .int .i64 v, .slice A f.length c, .string b] 24)).alloc (.cells #[.int .i64 pc, .string pr, .int .i64 pv, .slice B g.length d, .string pb] 26)).heap[w.heap.size]? = some (.cells #[.string m, .string t, .int .i64 v, .slice A f.length c, .string b] 24 (0, 0))) := alls_at [.cells #[.string m, .string t, .int .i64 v, .slice A f.length c, .string b] 24, .cells #[.int .i64 pc, .string pr, .int .i64 pv, .slice B g.length d, .string pb] 26] w 0 _ rfl
  have Z1 : Hid (((w.alloc (.cells #[.string m, .string t, .int .i64 v, .slice A f.length c, .string b] 24)).alloc (.cells #[.int .i64 pc, .string pr, .int .i64 pv, .slice B g.length d, .string pb] 26)).heap[w.heap.size + 1]? = some (.cells #[.int .i64 pc, .string pr, .int .i64 pv, .slice B g.length d, .string pb] 26 (0, 0))) := alls_at [.cells #[.string m, .string t, .int .i64 v, .slice A f.length c, .string b] 24, .cells #[.int .i64 pc, .string pr, .int .i64 pv, .slice B g.length d, .string pb] 26] w 1 _ rfl
  obtain ⟨q0, q1, q2, q3, q4⟩ := cel5r Z0.out
  obtain ⟨p0, p1, p2, p3, p4⟩ := cel5r Z1.out
  go_enter Tryz.func31, Tryz.ntmps31
  go_wp2_with fail
  refine (C1.out _ HB.out).mono ?_
  rintro e v9 ⟨rfl, hb⟩
  clear q0 q1 q2 q3 q4 p0 p1 p2 p3 p4
  replace Z0 := Lib.hid (zero_still hb Z0.out)
  replace Z1 := Lib.hid (zero_still hb Z1.out)
  replace HB := Lib.hid (below_then HB.out hb)
  clear hb
  obtain ⟨q0, q1, q2, q3, q4⟩ := cel5r Z0.out
  obtain ⟨p0, p1, p2, p3, p4⟩ := cel5r Z1.out
  go_wp2_with fail
  refine (C2.out _ HB.out).mono ?_
  rintro e v9 ⟨rfl, hb⟩
  clear q0 q1 q2 q3 q4 p0 p1 p2 p3 p4
  replace Z0 := Lib.hid (zero_still hb Z0.out)
  replace Z1 := Lib.hid (zero_still hb Z1.out)
  replace HB := Lib.hid (below_then HB.out hb)
  clear hb
  obtain ⟨q0, q1, q2, q3, q4⟩ := cel5r Z0.out
  obtain ⟨p0, p1, p2, p3, p4⟩ := cel5r Z1.out
  cases b5 <;> cases b6
  all_goals
    go_wp2_with fail
    go_ret
    exact ⟨rfl, HB.out⟩

set_option maxHeartbeats 8000000 in
set_option maxRecDepth 100000 in
theorem sameTag_any (r : Rply) (A : Option Addr) (c : Nat) (p : Rply) (B : Option Addr) (d : Nat) (w : World) (h : SlF w A r.f.length c r.f) (hQ : FwL r.f) (h' : SlF w B p.f.length d p.f) (hL : FwL p.f) :
    Calls Tryz.prog 49 #[.agg (rpC r A c), .agg (rpC p B d)] w fun e w' => e = .returned (.bool (stgB r.f p.f)) ∧ Below w.heap.size w w' := by
  have C1 := Lib.hid (fun W (hW : Below w.heap.size w W) => reuG_any r A c W (h.below hW) hQ)
  have C2 := Lib.hid (fun W (hW : Below w.heap.size w W) => reuG_any p B d W (h'.below hW) hL)
  have C3 := Lib.hid (fun W => etW_any (rtO r.f) (rtO p.f) W)
  obtain ⟨rc, rr, rv, f, rb⟩ := r
  obtain ⟨pc, pr, pv, g, pb⟩ := p
  unfold rpC stgB at *
  simp only at *
  generalize wekB (rtO f) (rtO g) = wk at *
  generalize rtO f = t1 at *
  generalize rtB f = b1 at *
  generalize rtO g = t2 at *
  generalize rtB g = b2 at *
  obtain ⟨ta, ts⟩ := t1
  obtain ⟨ua, us⟩ := t2
  unfold tgV at *
  clear h hQ h' hL
  have HB : Hid (Below w.heap.size w ((w.alloc (.cells #[.int .i64 rc, .string rr, .int .i64 rv, .slice A f.length c, .string rb] 26)).alloc (.cells #[.int .i64 pc, .string pr, .int .i64 pv, .slice B g.length d, .string pb] 26))) := alls_below [.cells #[.int .i64 rc, .string rr, .int .i64 rv, .slice A f.length c, .string rb] 26, .cells #[.int .i64 pc, .string pr, .int .i64 pv, .slice B g.length d, .string pb] 26] w
  have Z0 : Hid (((w.alloc (.cells #[.int .i64 rc, .string rr, .int .i64 rv, .slice A f.length c, .string rb] 26)).alloc (.cells #[.int .i64 pc, .string pr, .int .i64 pv, .slice B g.length d, .string pb] 26)).heap[w.heap.size]? = some (.cells #[.int .i64 rc, .string rr, .int .i64 rv, .slice A f.length c, .string rb] 26 (0, 0))) := alls_at [.cells #[.int .i64 rc, .string rr, .int .i64 rv, .slice A f.length c, .string rb] 26, .cells #[.int .i64 pc, .string pr, .int .i64 pv, .slice B g.length d, .string pb] 26] w 0 _ rfl
  have Z1 : Hid (((w.alloc (.cells #[.int .i64 rc, .string rr, .int .i64 rv, .slice A f.length c, .string rb] 26)).alloc (.cells #[.int .i64 pc, .string pr, .int .i64 pv, .slice B g.length d, .string pb] 26)).heap[w.heap.size + 1]? = some (.cells #[.int .i64 pc, .string pr, .int .i64 pv, .slice B g.length d, .string pb] 26 (0, 0))) := alls_at [.cells #[.int .i64 rc, .string rr, .int .i64 rv, .slice A f.length c, .string rb] 26, .cells #[.int .i64 pc, .string pr, .int .i64 pv, .slice B g.length d, .string pb] 26] w 1 _ rfl
  obtain ⟨q0, q1, q2, q3, q4⟩ := cel5r Z0.out
  obtain ⟨p0, p1, p2, p3, p4⟩ := cel5r Z1.out
  go_enter Tryz.func49, Tryz.ntmps49
  go_wp2_with fail
  refine (C1.out _ HB.out).mono ?_
  rintro e v9 ⟨rfl, hb⟩
  clear q0 q1 q2 q3 q4 p0 p1 p2 p3 p4
  replace Z0 := Lib.hid (zero_still hb Z0.out)
  replace Z1 := Lib.hid (zero_still hb Z1.out)
  replace HB := Lib.hid (below_then HB.out hb)
  clear hb
  obtain ⟨q0, q1, q2, q3, q4⟩ := cel5r Z0.out
  obtain ⟨p0, p1, p2, p3, p4⟩ := cel5r Z1.out
  obtain ⟨Uga, hUga⟩ : ∃ W, v9.alloc (.cells #[.bool ta, .string ts] 49) = W := ⟨_, rfl⟩
  obtain ⟨ga, hga⟩ : ∃ g, v9.heap.size = g := ⟨_, rfl⟩
  clear q0 q1 q2 q3 q4 p0 p1 p2 p3 p4
  replace Z0 := Lib.hid (zero_more (o' := .cells #[.bool ta, .string ts] 49) Z0.out)
  rw [hUga] at Z0
  replace Z1 := Lib.hid (zero_more (o' := .cells #[.bool ta, .string ts] 49) Z1.out)
  rw [hUga] at Z1
  have Tga : Hid (Uga.heap[ga]? = some (.cells #[.bool ta, .string ts] 49 (0, 0))) := (by show _ = _; rw [← hUga, ← hga]; exact heap_alloc_new v9 _)
  replace HB : Hid (Below w.heap.size w Uga) := (by show Below _ _ _; rw [← hUga]; exact HB.out.alloc HB.out.size _)
  obtain ⟨q0, q1, q2, q3, q4⟩ := cel5r Z0.out
  obtain ⟨p0, p1, p2, p3, p4⟩ := cel5r Z1.out
  obtain ⟨ga0', ga1'⟩ := zero_two Tga.out
  go_wp2_with fail
  refine (C2.out _ HB.out).mono ?_
  rintro e v9 ⟨rfl, hb⟩
  clear ga0' ga1' q0 q1 q2 q3 q4 p0 p1 p2 p3 p4
  replace Z0 := Lib.hid (zero_still hb Z0.out)
  replace Z1 := Lib.hid (zero_still hb Z1.out)
  replace Tga := Lib.hid (zero_still hb Tga.out)
  replace HB := Lib.hid (below_then HB.out hb)
  clear hb
  obtain ⟨q0, q1, q2, q3, q4⟩ := cel5r Z0.out
  obtain ⟨p0, p1, p2, p3, p4⟩ := cel5r Z1.out
  obtain ⟨Ugb, hUgb⟩ : ∃ W, v9.alloc (.cells #[.bool ua, .string us] 49) = W := ⟨_, rfl⟩
  obtain ⟨gb, hgb⟩ : ∃ g, v9.heap.size = g := ⟨_, rfl⟩
  clear q0 q1 q2 q3 q4 p0 p1 p2 p3 p4
  replace Z0 := Lib.hid (zero_more (o' := .cells #[.bool ua, .string us] 49) Z0.out)
  rw [hUgb] at Z0
  replace Z1 := Lib.hid (zero_more (o' := .cells #[.bool ua, .string us] 49) Z1.out)
  rw [hUgb] at Z1
  replace Tga := Lib.hid (zero_more (o' := .cells #[.bool ua, .string us] 49) Tga.out)
  rw [hUgb] at Tga
  have Tgb : Hid (Ugb.heap[gb]? = some (.cells #[.bool ua, .string us] 49 (0, 0))) := (by show _ = _; rw [← hUgb, ← hgb]; exact heap_alloc_new v9 _)
  replace HB : Hid (Below w.heap.size w Ugb) := (by show Below _ _ _; rw [← hUgb]; exact HB.out.alloc HB.out.size _)
  obtain ⟨q0, q1, q2, q3, q4⟩ := cel5r Z0.out
  obtain ⟨p0, p1, p2, p3, p4⟩ := cel5r Z1.out
  obtain ⟨gb0', gb1'⟩ := zero_two Tgb.out
  obtain ⟨ga0', ga1'⟩ := zero_two Tga.out
  cases b1 with
  | false =>
    go_wp2_with fail
    go_ret
    exact ⟨rfl, HB.out⟩
  | true =>
    cases b2 with
    | false =>
      go_wp2_with fail
      go_ret
      exact ⟨rfl, HB.out⟩
    | true =>
      go_wp2_with fail
      try rw [hUgb]
      refine (C3.out _).mono ?_
      rintro e v8 ⟨rfl, hb⟩
      replace HB := Lib.hid (below_then HB.out hb)
      clear hb
      clear q0 q1 q2 q3 q4 p0 p1 p2 p3 p4 ga0' ga1' gb0' gb1'
      go_wp2_with fail
      go_ret
      exact ⟨rfl, HB.out⟩

set_option maxHeartbeats 8000000 in
set_option maxRecDepth 100000 in
theorem sameMod_any (r : Rply) (A : Option Addr) (c : Nat) (p : Rply) (B : Option Addr) (d : Nat) (w : World) (h : SlF w A r.f.length c r.f) (hQ : FwL r.f) (h' : SlF w B p.f.length d p.f) (hL : FwL p.f) :
    Calls Tryz.prog 50 #[.agg (rpC r A c), .agg (rpC p B d)] w fun e w' => e = .returned (.bool (smoB r.f p.f)) ∧ Below w.heap.size w w' := by
  have B0 := both_of
  have C1 := Lib.hid (fun W (hW : Below w.heap.size w W) => getF_any A r.f.length c r.f lmS W (h.below hW) (by have := hQ.n; omega) (fwl_bd hQ) con_le2.2.1 (join_ok hQ _))
  have C2 := Lib.hid (fun W (hW : Below w.heap.size w W) => getF_any B p.f.length d p.f lmS W (h'.below hW) (by have := hL.n; omega) (fwl_bd hL) con_le2.2.1 (join_ok hL _))
  obtain ⟨rc, rr, rv, f, rb⟩ := r
  obtain ⟨pc, pr, pv, g, pb⟩ := p
  unfold rpC smoB at *
  simp only at *
  generalize fdGot f lmS = b1 at *
  generalize fdGet f lmS = s1 at *
  generalize fdGot g lmS = b2 at *
  generalize fdGet g lmS = s2 at *
  unfold lmS at C1 C2
  clear h hQ h' hL
  have HB : Hid (Below w.heap.size w ((w.alloc (.cells #[.int .i64 rc, .string rr, .int .i64 rv, .slice A f.length c, .string rb] 26)).alloc (.cells #[.int .i64 pc, .string pr, .int .i64 pv, .slice B g.length d, .string pb] 26))) := alls_below [.cells #[.int .i64 rc, .string rr, .int .i64 rv, .slice A f.length c, .string rb] 26, .cells #[.int .i64 pc, .string pr, .int .i64 pv, .slice B g.length d, .string pb] 26] w
  have Z0 : Hid (((w.alloc (.cells #[.int .i64 rc, .string rr, .int .i64 rv, .slice A f.length c, .string rb] 26)).alloc (.cells #[.int .i64 pc, .string pr, .int .i64 pv, .slice B g.length d, .string pb] 26)).heap[w.heap.size]? = some (.cells #[.int .i64 rc, .string rr, .int .i64 rv, .slice A f.length c, .string rb] 26 (0, 0))) := alls_at [.cells #[.int .i64 rc, .string rr, .int .i64 rv, .slice A f.length c, .string rb] 26, .cells #[.int .i64 pc, .string pr, .int .i64 pv, .slice B g.length d, .string pb] 26] w 0 _ rfl
  have Z1 : Hid (((w.alloc (.cells #[.int .i64 rc, .string rr, .int .i64 rv, .slice A f.length c, .string rb] 26)).alloc (.cells #[.int .i64 pc, .string pr, .int .i64 pv, .slice B g.length d, .string pb] 26)).heap[w.heap.size + 1]? = some (.cells #[.int .i64 pc, .string pr, .int .i64 pv, .slice B g.length d, .string pb] 26 (0, 0))) := alls_at [.cells #[.int .i64 rc, .string rr, .int .i64 rv, .slice A f.length c, .string rb] 26, .cells #[.int .i64 pc, .string pr, .int .i64 pv, .slice B g.length d, .string pb] 26] w 1 _ rfl
  obtain ⟨q0, q1, q2, q3, q4⟩ := cel5r Z0.out
  obtain ⟨p0, p1, p2, p3, p4⟩ := cel5r Z1.out
  go_enter Tryz.func50, Tryz.ntmps50
  go_wp2_with fail
  refine (C1.out _ HB.out).mono ?_
  rintro e v9 ⟨rfl, hb⟩
  clear q0 q1 q2 q3 q4 p0 p1 p2 p3 p4
  replace Z0 := Lib.hid (zero_still hb Z0.out)
  replace Z1 := Lib.hid (zero_still hb Z1.out)
  replace HB := Lib.hid (below_then HB.out hb)
  clear hb
  obtain ⟨q0, q1, q2, q3, q4⟩ := cel5r Z0.out
  obtain ⟨p0, p1, p2, p3, p4⟩ := cel5r Z1.out
  go_wp2_with fail
  refine (C2.out _ HB.out).mono ?_
  rintro e v9 ⟨rfl, hb⟩
  clear q0 q1 q2 q3 q4 p0 p1 p2 p3 p4
  replace Z0 := Lib.hid (zero_still hb Z0.out)
  replace Z1 := Lib.hid (zero_still hb Z1.out)
  replace HB := Lib.hid (below_then HB.out hb)
  clear hb
  obtain ⟨q0, q1, q2, q3, q4⟩ := cel5r Z0.out
  obtain ⟨p0, p1, p2, p3, p4⟩ := cel5r Z1.out
  rcases B0 (s1.toList == s2.toList) with hS | hS
  all_goals
    cases b1 <;> cases b2
    all_goals
      go_wp2_with fail
      go_ret
      exact ⟨by rw [hS]; rfl, HB.out⟩

set_option maxHeartbeats 8000000 in
set_option maxRecDepth 100000 in
theorem conS_any (r : Rqst) (A : Option Addr) (c : Nat) (p : Rply) (B : Option Addr) (d : Nat) (w : World) (h : SlF w A r.f.length c r.f) (hQ : FwL r.f) (h' : SlF w B p.f.length d p.f) (hL : FwL p.f) (HT : ConTabs w) :
    Calls Tryz.prog 10 #[.agg (rqC r A c), .agg (rpC p B d)] w fun e w' => e = .returned (.bool (satB r.m r.f p.f p.c)) ∧ Below w.heap.size w w' := by
  have B0 := both_of
  have C1 := Lib.hid (fun W (hW : Below w.heap.size w W) => getF_any A r.f.length c r.f nnS W (h.below hW) (by have := hQ.n; omega) (fwl_bd hQ) con_le.1 (join_ok hQ _))
  have C2 := Lib.hid (fun W (hW : Below w.heap.size w W) => listed_any (fdGet r.f nnS) p B d W (get_le hQ nnS) (h'.below hW) hL)
  have C3 := Lib.hid (fun W (hW : Below w.heap.size w W) => unchanged_any r A c p B d W (h.below hW) hQ (h'.below hW) hL (HT.kept hW))
  obtain ⟨m, t, v, f, b⟩ := r
  obtain ⟨pc, pr, pv, g, pb⟩ := p
  unfold rqC rpC at *
  simp only at *
  have HD := Lib.hid (show satB m f g pc = ((m.toList == [71, 69, 84] || m.toList == [72, 69, 65, 68]) && (pc == 200 && satA f g)) from rfl)
  have HG : Hid (fdGot f nnS = true → satA f g = lisB (fdGet f nnS) g) := fun hh => by unfold satA; rw [if_pos hh]; rfl
  have HN : Hid (fdGot f nnS = false → satA f g = uncB f g) := fun hh => by unfold satA; rw [if_neg (by simp [hh])]; rfl
  rw [HD.out]
  clear HD
  generalize satA f g = R at *
  generalize lisB (fdGet f nnS) g = X1 at *
  generalize uncB f g = X2 at *
  generalize fdGet f nnS = gv at *
  generalize fdGot f nnS = gb at *
  unfold nnS at C1
  clear h hQ h' hL HT
  have HB : Hid (Below w.heap.size w ((w.alloc (.cells #[.string m, .string t, .int .i64 v, .slice A f.length c, .string b] 24)).alloc (.cells #[.int .i64 pc, .string pr, .int .i64 pv, .slice B g.length d, .string pb] 26))) := alls_below [.cells #[.string m, .string t, .int .i64 v, .slice A f.length c, .string b] 24, .cells #[.int .i64 pc, .string pr, .int .i64 pv, .slice B g.length d, .string pb] 26] w
  have Z0 : Hid (((w.alloc (.cells #[.string m, .string t, .int .i64 v, .slice A f.length c, .string b] 24)).alloc (.cells #[.int .i64 pc, .string pr, .int .i64 pv, .slice B g.length d, .string pb] 26)).heap[w.heap.size]? = some (.cells #[.string m, .string t, .int .i64 v, .slice A f.length c, .string b] 24 (0, 0))) := alls_at [.cells #[.string m, .string t, .int .i64 v, .slice A f.length c, .string b] 24, .cells #[.int .i64 pc, .string pr, .int .i64 pv, .slice B g.length d, .string pb] 26] w 0 _ rfl
  have Z1 : Hid (((w.alloc (.cells #[.string m, .string t, .int .i64 v, .slice A f.length c, .string b] 24)).alloc (.cells #[.int .i64 pc, .string pr, .int .i64 pv, .slice B g.length d, .string pb] 26)).heap[w.heap.size + 1]? = some (.cells #[.int .i64 pc, .string pr, .int .i64 pv, .slice B g.length d, .string pb] 26 (0, 0))) := alls_at [.cells #[.string m, .string t, .int .i64 v, .slice A f.length c, .string b] 24, .cells #[.int .i64 pc, .string pr, .int .i64 pv, .slice B g.length d, .string pb] 26] w 1 _ rfl
  obtain ⟨q0, q1, q2, q3, q4⟩ := cel5r Z0.out
  obtain ⟨p0, p1, p2, p3, p4⟩ := cel5r Z1.out
  rcases B0 (pc == 200) with k | k
  · have kn : (pc != 200) = false := by rw [bne, k]; rfl
    rw [k]
    rcases B0 (m.toList == [71, 69, 84]) with h1 | h1
    · have n1 : (m.toList != [71, 69, 84]) = false := by rw [bne, h1]; rfl
      rw [h1]
      go_enter Tryz.func10, Tryz.ntmps10
      go_wp2_with fail
      refine (C1.out _ HB.out).mono ?_
      rintro e v9 ⟨rfl, hb⟩
      clear q0 q1 q2 q3 q4 p0 p1 p2 p3 p4
      replace Z0 := Lib.hid (zero_still hb Z0.out)
      replace Z1 := Lib.hid (zero_still hb Z1.out)
      replace HB := Lib.hid (below_then HB.out hb)
      clear hb
      obtain ⟨q0, q1, q2, q3, q4⟩ := cel5r Z0.out
      obtain ⟨p0, p1, p2, p3, p4⟩ := cel5r Z1.out
      cases gb with
      | true =>
        go_wp2_with fail
        refine (C2.out _ HB.out).mono ?_
        rintro e v9 ⟨rfl, hb⟩
        clear q0 q1 q2 q3 q4 p0 p1 p2 p3 p4
        replace Z0 := Lib.hid (zero_still hb Z0.out)
        replace Z1 := Lib.hid (zero_still hb Z1.out)
        replace HB := Lib.hid (below_then HB.out hb)
        clear hb
        obtain ⟨q0, q1, q2, q3, q4⟩ := cel5r Z0.out
        obtain ⟨p0, p1, p2, p3, p4⟩ := cel5r Z1.out
        clear q0 q1 q2 q3 q4 p0 p1 p2 p3 p4
        go_wp2_with fail
        go_ret
        exact ⟨by rw [HG.out (by simp)] <;> rfl, HB.out⟩
      | false =>
        go_wp2_with fail
        refine (C3.out _ HB.out).mono ?_
        rintro e v9 ⟨rfl, hb⟩
        clear q0 q1 q2 q3 q4 p0 p1 p2 p3 p4
        replace Z0 := Lib.hid (zero_still hb Z0.out)
        replace Z1 := Lib.hid (zero_still hb Z1.out)
        replace HB := Lib.hid (below_then HB.out hb)
        clear hb
        obtain ⟨q0, q1, q2, q3, q4⟩ := cel5r Z0.out
        obtain ⟨p0, p1, p2, p3, p4⟩ := cel5r Z1.out
        clear q0 q1 q2 q3 q4 p0 p1 p2 p3 p4
        go_wp2_with fail
        go_ret
        exact ⟨by rw [HN.out (by simp)] <;> rfl, HB.out⟩
    · have n1 : (m.toList != [71, 69, 84]) = true := by rw [bne, h1]; rfl
      rw [h1]
      rcases B0 (m.toList == [72, 69, 65, 68]) with h2 | h2
      · have n2 : (m.toList != [72, 69, 65, 68]) = false := by rw [bne, h2]; rfl
        rw [h2]
        go_enter Tryz.func10, Tryz.ntmps10
        go_wp2_with fail
        refine (C1.out _ HB.out).mono ?_
        rintro e v9 ⟨rfl, hb⟩
        clear q0 q1 q2 q3 q4 p0 p1 p2 p3 p4
        replace Z0 := Lib.hid (zero_still hb Z0.out)
        replace Z1 := Lib.hid (zero_still hb Z1.out)
        replace HB := Lib.hid (below_then HB.out hb)
        clear hb
        obtain ⟨q0, q1, q2, q3, q4⟩ := cel5r Z0.out
        obtain ⟨p0, p1, p2, p3, p4⟩ := cel5r Z1.out
        cases gb with
        | true =>
          go_wp2_with fail
          refine (C2.out _ HB.out).mono ?_
          rintro e v9 ⟨rfl, hb⟩
          clear q0 q1 q2 q3 q4 p0 p1 p2 p3 p4
          replace Z0 := Lib.hid (zero_still hb Z0.out)
          replace Z1 := Lib.hid (zero_still hb Z1.out)
          replace HB := Lib.hid (below_then HB.out hb)
          clear hb
          obtain ⟨q0, q1, q2, q3, q4⟩ := cel5r Z0.out
          obtain ⟨p0, p1, p2, p3, p4⟩ := cel5r Z1.out
          clear q0 q1 q2 q3 q4 p0 p1 p2 p3 p4
          go_wp2_with fail
          go_ret
          exact ⟨by rw [HG.out (by simp)] <;> rfl, HB.out⟩
        | false =>
          go_wp2_with fail
          refine (C3.out _ HB.out).mono ?_
          rintro e v9 ⟨rfl, hb⟩
          clear q0 q1 q2 q3 q4 p0 p1 p2 p3 p4
          replace Z0 := Lib.hid (zero_still hb Z0.out)
          replace Z1 := Lib.hid (zero_still hb Z1.out)
          replace HB := Lib.hid (below_then HB.out hb)
          clear hb
          obtain ⟨q0, q1, q2, q3, q4⟩ := cel5r Z0.out
          obtain ⟨p0, p1, p2, p3, p4⟩ := cel5r Z1.out
          clear q0 q1 q2 q3 q4 p0 p1 p2 p3 p4
          go_wp2_with fail
          go_ret
          exact ⟨by rw [HN.out (by simp)] <;> rfl, HB.out⟩
      · have n2 : (m.toList != [72, 69, 65, 68]) = true := by rw [bne, h2]; rfl
        rw [h2]
        go_enter Tryz.func10, Tryz.ntmps10
        go_wp2_with fail
        go_ret
        exact ⟨rfl, HB.out⟩
  · have kn : (pc != 200) = true := by rw [bne, k]; rfl
    rw [k, Bool.false_and, Bool.and_false]
    rcases B0 (m.toList == [71, 69, 84]) with h1 | h1
    · have n1 : (m.toList != [71, 69, 84]) = false := by rw [bne, h1]; rfl
      go_enter Tryz.func10, Tryz.ntmps10
      go_wp2_with fail
      go_ret
      exact ⟨rfl, HB.out⟩
    · have n1 : (m.toList != [71, 69, 84]) = true := by rw [bne, h1]; rfl
      rcases B0 (m.toList == [72, 69, 65, 68]) with h2 | h2
      all_goals
        have n2 : (m.toList != [72, 69, 65, 68]) = !(m.toList == [72, 69, 65, 68]) := rfl
        rw [h2] at n2
        go_enter Tryz.func10, Tryz.ntmps10
        go_wp2_with fail
        go_ret
        exact ⟨rfl, HB.out⟩

set_option maxHeartbeats 8000000 in
set_option maxRecDepth 100000 in
theorem conL_any (r : Rply) (A : Option Addr) (c : Nat) (p : Rply) (B : Option Addr) (d : Nat) (w : World) (h : SlF w A r.f.length c r.f) (hQ : FwL r.f) (h' : SlF w B p.f.length d p.f) (hL : FwL p.f) :
    Calls Tryz.prog 21 #[.agg (rpC r A c), .agg (rpC p B d)] w fun e w' => e = .returned (.bool (selB r.f p.f)) ∧ Below w.heap.size w w' := by
  have C1 := Lib.hid (fun W (hW : Below w.heap.size w W) => getF_any B p.f.length d p.f etS W (h'.below hW) (by have := hL.n; omega) (fwl_bd hL) con_le2.1 (join_ok hL _))
  have C2 := Lib.hid (fun W (hW : Below w.heap.size w W) => sameTag_any r A c p B d W (h.below hW) hQ (h'.below hW) hL)
  have C3 := Lib.hid (fun W (hW : Below w.heap.size w W) => getF_any B p.f.length d p.f lmS W (h'.below hW) (by have := hL.n; omega) (fwl_bd hL) con_le2.2.1 (join_ok hL _))
  have C4 := Lib.hid (fun W (hW : Below w.heap.size w W) => sameMod_any r A c p B d W (h.below hW) hQ (h'.below hW) hL)
  obtain ⟨rc, rr, rv, f, rb⟩ := r
  obtain ⟨pc, pr, pv, g, pb⟩ := p
  unfold rpC at *
  simp only at *
  have HD1 : Hid (fdGot g etS = true → selB f g = stgB f g) := fun hh => by unfold selB; rw [if_pos hh]; rfl
  have HD2 : Hid (fdGot g etS = false → fdGot g lmS = true → selB f g = smoB f g) := fun hh h2 => by unfold selB smoB; rw [if_neg (by simp [hh]), h2, BEq.comm (a := (fdGet g lmS).toList)]; cases fdGot f lmS <;> rfl
  have HD3 : Hid (fdGot g etS = false → fdGot g lmS = false → selB f g = true) := fun hh h2 => by unfold selB; rw [if_neg (by simp [hh]), h2]; rfl
  generalize selB f g = R at *
  generalize stgB f g = X1 at *
  generalize smoB f g = X2 at *
  generalize fdGot g etS = g1 at *
  generalize fdGet g etS = s1 at *
  generalize fdGot g lmS = g2 at *
  generalize fdGet g lmS = s2 at *
  unfold etS at C1
  unfold lmS at C3
  clear h hQ h' hL
  have HB : Hid (Below w.heap.size w ((w.alloc (.cells #[.int .i64 rc, .string rr, .int .i64 rv, .slice A f.length c, .string rb] 26)).alloc (.cells #[.int .i64 pc, .string pr, .int .i64 pv, .slice B g.length d, .string pb] 26))) := alls_below [.cells #[.int .i64 rc, .string rr, .int .i64 rv, .slice A f.length c, .string rb] 26, .cells #[.int .i64 pc, .string pr, .int .i64 pv, .slice B g.length d, .string pb] 26] w
  have Z0 : Hid (((w.alloc (.cells #[.int .i64 rc, .string rr, .int .i64 rv, .slice A f.length c, .string rb] 26)).alloc (.cells #[.int .i64 pc, .string pr, .int .i64 pv, .slice B g.length d, .string pb] 26)).heap[w.heap.size]? = some (.cells #[.int .i64 rc, .string rr, .int .i64 rv, .slice A f.length c, .string rb] 26 (0, 0))) := alls_at [.cells #[.int .i64 rc, .string rr, .int .i64 rv, .slice A f.length c, .string rb] 26, .cells #[.int .i64 pc, .string pr, .int .i64 pv, .slice B g.length d, .string pb] 26] w 0 _ rfl
  have Z1 : Hid (((w.alloc (.cells #[.int .i64 rc, .string rr, .int .i64 rv, .slice A f.length c, .string rb] 26)).alloc (.cells #[.int .i64 pc, .string pr, .int .i64 pv, .slice B g.length d, .string pb] 26)).heap[w.heap.size + 1]? = some (.cells #[.int .i64 pc, .string pr, .int .i64 pv, .slice B g.length d, .string pb] 26 (0, 0))) := alls_at [.cells #[.int .i64 rc, .string rr, .int .i64 rv, .slice A f.length c, .string rb] 26, .cells #[.int .i64 pc, .string pr, .int .i64 pv, .slice B g.length d, .string pb] 26] w 1 _ rfl
  obtain ⟨q0, q1, q2, q3, q4⟩ := cel5r Z0.out
  obtain ⟨p0, p1, p2, p3, p4⟩ := cel5r Z1.out
  go_enter Tryz.func21, Tryz.ntmps21
  go_wp2_with fail
  refine (C1.out _ HB.out).mono ?_
  rintro e v9 ⟨rfl, hb⟩
  clear q0 q1 q2 q3 q4 p0 p1 p2 p3 p4
  replace Z0 := Lib.hid (zero_still hb Z0.out)
  replace Z1 := Lib.hid (zero_still hb Z1.out)
  replace HB := Lib.hid (below_then HB.out hb)
  clear hb
  obtain ⟨q0, q1, q2, q3, q4⟩ := cel5r Z0.out
  obtain ⟨p0, p1, p2, p3, p4⟩ := cel5r Z1.out
  cases g1 with
  | true =>
    go_wp2_with fail
    refine (C2.out _ HB.out).mono ?_
    rintro e v9 ⟨rfl, hb⟩
    clear q0 q1 q2 q3 q4 p0 p1 p2 p3 p4
    replace Z0 := Lib.hid (zero_still hb Z0.out)
    replace Z1 := Lib.hid (zero_still hb Z1.out)
    replace HB := Lib.hid (below_then HB.out hb)
    clear hb
    obtain ⟨q0, q1, q2, q3, q4⟩ := cel5r Z0.out
    obtain ⟨p0, p1, p2, p3, p4⟩ := cel5r Z1.out
    clear q0 q1 q2 q3 q4 p0 p1 p2 p3 p4
    go_wp2_with fail
    go_ret
    exact ⟨by rw [HD1.out (by simp)] <;> rfl, HB.out⟩
  | false =>
    go_wp2_with fail
    refine (C3.out _ HB.out).mono ?_
    rintro e v9 ⟨rfl, hb⟩
    clear q0 q1 q2 q3 q4 p0 p1 p2 p3 p4
    replace Z0 := Lib.hid (zero_still hb Z0.out)
    replace Z1 := Lib.hid (zero_still hb Z1.out)
    replace HB := Lib.hid (below_then HB.out hb)
    clear hb
    obtain ⟨q0, q1, q2, q3, q4⟩ := cel5r Z0.out
    obtain ⟨p0, p1, p2, p3, p4⟩ := cel5r Z1.out
    cases g2 with
    | true =>
      go_wp2_with fail
      refine (C4.out _ HB.out).mono ?_
      rintro e v9 ⟨rfl, hb⟩
      clear q0 q1 q2 q3 q4 p0 p1 p2 p3 p4
      replace Z0 := Lib.hid (zero_still hb Z0.out)
      replace Z1 := Lib.hid (zero_still hb Z1.out)
      replace HB := Lib.hid (below_then HB.out hb)
      clear hb
      obtain ⟨q0, q1, q2, q3, q4⟩ := cel5r Z0.out
      obtain ⟨p0, p1, p2, p3, p4⟩ := cel5r Z1.out
      clear q0 q1 q2 q3 q4 p0 p1 p2 p3 p4
      go_wp2_with fail
      go_ret
      exact ⟨by rw [HD2.out (by simp) (by simp)] <;> rfl, HB.out⟩
    | false =>
      go_wp2_with fail
      go_ret
      exact ⟨by rw [HD3.out (by simp) (by simp)] <;> rfl, HB.out⟩

end Go.Proofs.YtjkfdjolhmgemaaGreatDoor
end

/-
  A stored reply that comes in: what a struct of a reply, an integer and a slice reads as; the question that the laws ask of a reply's size.
-/
section
namespace Go.Proofs.YtjkfdjolhmgemaaGreatDoor
open Go.RowKit Go.ChangeShapes Go.WideShapes

structure WfS (w : World) (s : Stor) (A : Option Addr) (c : Nat) : Prop where
  f : SlF w A s.f.length c s.f
  r : s.r.size ≤ maxLen
  b : s.b.size ≤ maxLen
  c : (Lit.int .i64 s.c).wf = true
  t : (Lit.int .i64 s.t).wf = true

section
variable {H : Type} {enc : TypeId × Value → H} {P : Program} {w : World} {base : Nat} {held : Bool}
theorem seven_of {cs : Array Value} (h : cs.size = 7) : ∃ c0 c1 c2 c3 c4 c5 c6, cs = #[c0, c1, c2, c3, c4, c5, c6] := by
  obtain ⟨l⟩ := cs
  match l, h with
  | [c0, c1, c2, c3, c4, c5, c6], _ => exact ⟨c0, c1, c2, c3, c4, c5, c6, rfl⟩
/-- A struct's part, read. -/
theorem part_of {t : TypeId} {fs : Array Field} {fuel : Nat} {cs : List Value} {x : DataW H × List MemPlace} (ht : P.underlying t = some (.struct fs)) (h : DataW.trod enc P w base (fun _ => true) held fuel t cs = some x)
    (i : Nat) (f : Field) (hi : fs[i]? = some f) (o k : Nat) (ho : f.offset = o) (hk : P.cellsOf f.type = k) : ∃ n y, DataW.trod enc P w base (fun _ => true) held n f.type ((cs.drop o).take k) = some y := by
  obtain ⟨xs, n, _, _, _, hlen, hx⟩ := DataW.trod_struct ht h
  have h1 := hx i f hi
  have hlt : i < xs.length := by rw [hlen]; exact (Array.getElem?_eq_some_iff.1 hi).1
  rw [List.getElem?_eq_getElem hlt, ho, hk] at h1
  exact ⟨n, xs[i], h1⟩
theorem WfS.of_trod {r : Reach} {b0 : Nat} {t e q : TypeId} {f0 f1 f2 e0 e1 e2 e3 e4 g0 g1 : Field} {v : Value} {d : DataW H} {p : List MemPlace}
    (hs : P.underlying t = some (.struct #[f0, f1, f2])) (hC : P.cellsOf t = 7) (o0 : f0.offset = 0) (o1 : f1.offset = 5) (o2 : f2.offset = 6) (c0 : P.cellsOf f0.type = 5) (c1 : P.cellsOf f1.type = 1) (c2 : P.cellsOf f2.type = 1)
    (hr : P.underlying f0.type = some (.struct #[e0, e1, e2, e3, e4])) (k1 : P.underlying f1.type = some (.int .i64)) (k2 : P.underlying f2.type = some (.slice q))
    (p0 : e0.offset = 0) (p1 : e1.offset = 1) (p2 : e2.offset = 2) (p3 : e3.offset = 3) (p4 : e4.offset = 4) (d0 : P.cellsOf e0.type = 1) (d1 : P.cellsOf e1.type = 1) (d2 : P.cellsOf e2.type = 1) (d3 : P.cellsOf e3.type = 1) (d4 : P.cellsOf e4.type = 1)
    (i0 : P.underlying e0.type = some (.int .i64)) (i1 : P.underlying e1.type = some .string) (i2 : P.underlying e2.type = some (.int .i64)) (i3 : P.underlying e3.type = some (.slice e)) (i4 : P.underlying e4.type = some .string)
    (he : P.underlying e = some (.struct #[g0, g1])) (ce : P.cellsOf e = 2) (x0 : g0.offset = 0) (x1 : g1.offset = 1) (y0 : P.cellsOf g0.type = 1) (y1 : P.cellsOf g1.type = 1) (z0 : P.underlying g0.type = some .string) (z1 : P.underlying g1.type = some .string)
    (hv : Value.okWide P w r b0 t v) (h : DataW.Trod enc P w base (fun _ => true) held t v d p) : ∃ s A c B n m, v = .agg (stC s A c B n m) ∧ WfS w s A c := by
  obtain ⟨cs, rfl, hsz⟩ := okWide_struct hs hv
  obtain ⟨a0, a1, a2, a3, a4, a5, a6, rfl⟩ := seven_of (hsz.trans hC)
  obtain ⟨fuel, hf⟩ := h
  obtain ⟨n0, u0, t0⟩ := part_of hs hf 0 f0 rfl 0 5 o0 c0
  obtain ⟨n1, u1, t1⟩ := part_of hs hf 1 f1 rfl 5 1 o1 c1
  obtain ⟨n2, u2, t2⟩ := part_of hs hf 2 f2 rfl 6 1 o2 c2
  obtain ⟨m0, v0, r0⟩ := part_of hr t0 0 e0 rfl 0 1 p0 d0
  obtain ⟨m1, v1, r1⟩ := part_of hr t0 1 e1 rfl 1 1 p1 d1
  obtain ⟨m2, v2, r2⟩ := part_of hr t0 2 e2 rfl 2 1 p2 d2
  obtain ⟨m3, v3, r3⟩ := part_of hr t0 3 e3 rfl 3 1 p3 d3
  obtain ⟨m4, v4, r4⟩ := part_of hr t0 4 e4 rfl 4 1 p4 d4
  obtain ⟨s0, q0, _, w0⟩ := DataW.trod_int i0 (show DataW.trod enc P w base (fun _ => true) held m0 e0.type [a0] = some v0 from r0)
  obtain ⟨s1, q1, _, w1⟩ := DataW.trod_string i1 (show DataW.trod enc P w base (fun _ => true) held m1 e1.type [a1] = some v1 from r1)
  obtain ⟨s2, q2, _, w2⟩ := DataW.trod_int i2 (show DataW.trod enc P w base (fun _ => true) held m2 e2.type [a2] = some v2 from r2)
  have r3 : DataW.trod enc P w base (fun _ => true) held m3 e3.type [a3] = some v3 := r3
  obtain ⟨A, k, cp, hA⟩ := Go.Joins.slice_form i3 r3
  simp only [List.cons.injEq, and_true] at hA
  subst hA
  obtain ⟨L, hL⟩ := SlF.of_trod (d := v3.1) (p := v3.2) i3 he ce x0 x1 y0 y1 z0 z1 ⟨m3, r3⟩
  obtain ⟨s4, q4, _, w4⟩ := DataW.trod_string i4 (show DataW.trod enc P w base (fun _ => true) held m4 e4.type [a4] = some v4 from r4)
  obtain ⟨s5, q5, _, w5⟩ := DataW.trod_int k1 (show DataW.trod enc P w base (fun _ => true) held n1 f1.type [a5] = some u1 from t1)
  obtain ⟨B, n, m, hB⟩ := Go.Joins.slice_form k2 (show DataW.trod enc P w base (fun _ => true) held n2 f2.type [a6] = some u2 from t2)
  simp only [List.cons.injEq, and_true] at q0 q1 q2 q4 q5 hB
  subst q0 q1 q2 q4 q5 hB
  have hl := hL.len
  subst hl
  exact ⟨⟨s0, s1, s2, L, s4, s5⟩, A, cp, B, n, m, rfl, hL, w1, w4, w0, w5⟩
end

def fwR (s : Stor) : Bool := (decide (s.r.size ≤ 500) && decide (s.b.size ≤ 500)) && fewB s.f 70 500
theorem fwR_yes {s : Stor} (h : fwR s = true) : FwL s.f ∧ s.f.length ≤ 70 ∧ ∀ x ∈ s.f, x.1.size ≤ 500 ∧ x.2.size ≤ 500 := by
  unfold fwR at h
  rw [Bool.and_eq_true] at h
  obtain ⟨g1, g2⟩ := few_yes h.2
  exact ⟨⟨by omega, fun x hx => by have := (g2 x hx).2; omega, fun x hx => by have := (g2 x hx).1; omega⟩, g1, g2⟩
set_option maxHeartbeats 4000000 in
set_option maxRecDepth 100000 in
theorem r_fewR (s : Stor) (A : Option Addr) (c : Nat) (w : World) (h : SlF w A s.f.length c s.f) :
    Calls Tryz.prog 8 #[.agg (srC s A c), .int .i64 500] w fun e w' => e = .returned (.bool (fwR s)) ∧ Below w.heap.size w w' := by
  have C1 := Lib.hid (fun W (hW : Below w.heap.size w W) => rf_few A _ c 70 500 s.f W (h.below hW) (by omega))
  have C1 := Lib.hid (fun W hW => show Calls Tryz.prog 29 #[.slice A s.f.length c, .int .i64 70, .int .i64 500] W (fun e w' => e = .returned (.bool (fewB s.f 70 500)) ∧ W = w') from C1.out W hW)
  obtain ⟨m, t, v, f, b, tm⟩ := s
  have hD : fwR ⟨m, t, v, f, b, tm⟩ = ((decide (t.size ≤ 500) && decide (b.size ≤ 500)) && fewB f 70 500) := rfl
  unfold srC
  simp only at *
  generalize fwR ⟨m, t, v, f, b, tm⟩ = R at *
  generalize fewB f 70 500 = fw at *
  have HB1 : Hid (Below w.heap.size w (w.alloc (.cells #[.int .i64 m, .string t, .int .i64 v, .slice A f.length c, .string b] 26))) := (Below.refl _ _).alloc (Nat.le_refl _) _
  clear h
  by_cases ht : t.size ≤ 500
  · have ht' : (t.size : Int) ≤ 500 := by omega
    by_cases hb : b.size ≤ 500
    · have hb' : (b.size : Int) ≤ 500 := by omega
      have HR : Hid (R = fw) := by show _ = _; rw [hD, decide_eq_true ht, decide_eq_true hb]; rfl
      clear hD
      go_enter Tryz.func8, Tryz.ntmps8
      go_wp2_with fail
      refine (C1.out _ HB1.out).mono ?_
      rintro e w1 ⟨rfl, rfl⟩
      go_wp2_with fail
      go_ret
      exact ⟨by rw [HR.out]; rfl, HB1.out⟩
    · have hb' : ¬ (b.size : Int) ≤ 500 := by omega
      have HR : Hid (R = false) := by show _ = _; rw [hD, decide_eq_true ht, decide_eq_false hb, Bool.and_false]; (try rfl)
      clear hD C1
      go_enter Tryz.func8, Tryz.ntmps8
      go_wp2_with fail
      go_ret
      exact ⟨by rw [HR.out]; rfl, HB1.out⟩
  · have ht' : ¬ (t.size : Int) ≤ 500 := by omega
    have HR : Hid (R = false) := by show _ = _; rw [hD, decide_eq_false ht]; (try rfl)
    clear hD C1
    go_enter Tryz.func8, Tryz.ntmps8
    go_wp2_with fail
    go_ret
    exact ⟨by rw [HR.out]; rfl, HB1.out⟩

end Go.Proofs.YtjkfdjolhmgemaaGreatDoor
end
